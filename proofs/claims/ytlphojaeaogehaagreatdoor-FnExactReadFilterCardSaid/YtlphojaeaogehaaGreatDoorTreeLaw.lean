
/- The law's marks on nodes that were answered. -/

/- The law's marks on nodes, looked for. -/

/- The law's helpers on a filter that was read. -/
import Derived.Test.YtlphojaeaogehaaGreatDoorNtMark1
import Derived.Deep.RegionWith
import Derived.OrdersHeld
namespace Go.Proofs.YtlphojaeaogehaaGreatDoor
open Go.RowKit Go.Lib Go.Maps
/-- A node with marks from k on; the number behind them. -/
def mkN (k : Nat) (c : Nd) : Nd := ⟨(k : Int), ((k + 1 : Nat) : Int), ((k + 2 : Nat) : Int), markR (k + 3), marksR (k + 4) c.names.length, marksR (k + 4 + c.names.length) c.keys.length, numsFrom (k + 4 + c.names.length + c.keys.length) c.kids.length⟩
def nxN (k : Nat) (c : Nd) : Nat := k + 4 + c.names.length + c.keys.length + c.kids.length
def mkNE : Nat → List NdE → List NdE
  | _, [] => []
  | k, e :: r => (mkN k e.1, e.2) :: mkNE (nxN k e.1) r
def endN : Nat → List Nd → Nat
  | k, [] => k
  | k, c :: r => endN (nxN k c) r
set_option maxRecDepth 20000 in
theorem endN_ge : ∀ (C : List Nd) (k : Nat), k ≤ endN k C
  | [], k => Nat.le_refl _
  | f :: r, k => by rw [endN]; have := endN_ge r (nxN k f); unfold nxN at this ⊢; omega
set_option maxRecDepth 20000 in
theorem endN_le (m : Nat) : ∀ (C : List Nd) (k : Nat), (∀ c ∈ C, c.names.length ≤ m ∧ c.keys.length ≤ m ∧ c.kids.length ≤ m) → endN k C ≤ k + C.length * (4 + 3 * m)
  | [], k, _ => by simp [endN]
  | f :: r, k, h => by
    rw [endN]
    have h1 := endN_le m r (nxN k f) (fun c hc => h c (List.mem_cons_of_mem _ hc))
    obtain ⟨h2, h3, h4⟩ := h f List.mem_cons_self
    unfold nxN at h1 ⊢
    rw [List.length_cons, Nat.add_mul, Nat.one_mul]
    omega
set_option maxRecDepth 20000 in
theorem mkNE_len : ∀ (E : List NdE) (k : Nat), (mkNE k E).length = E.length
  | [], _ => rfl
  | e :: r, k => by rw [mkNE, List.length_cons, mkNE_len r, List.length_cons]
set_option maxRecDepth 20000 in
/-- Three numbers of a node are written. -/
theorem Nt.put3 {B g cap m : Nat} {E : List NdE} {w : World} (h : Nt B (.slice (some ⟨g, 0, none⟩) m cap) E w) (hn : E.length = m) (i : Nat) (hi : i < E.length) (k0 k1 k2 : Int) (n : Nd) (vs : Value × Value × Value) (he : E[i] = (n, vs)) :
    Nt B (.slice (some ⟨g, 0, none⟩) m cap) (E.set i (⟨k0, k1, k2, n.text, n.names, n.keys, n.kids⟩, vs)) (((w.setCell ⟨g, i * 7, none⟩ (.int .i64 k0)).setCell ⟨g, i * 7 + 1, none⟩ (.int .i64 k1)).setCell ⟨g, i * 7 + 2, none⟩ (.int .i64 k2)) := by
  have s1 := h.put1n hn i hi 0 ({ n with kind := k0 }, vs) (.int .i64 k0) (by omega) (by rw [he]; rfl) (by rw [he]) (by rw [he]) (by rw [he]) (by rw [he])
  have s2 := s1.put1n (by rw [List.length_set]; exact hn) i (by rw [List.length_set]; exact hi) 1 ({ n with kind := k0, num := k1 }, vs) (.int .i64 k1) (by omega) (by rw [List.getElem_set_self]; rfl) (by rw [List.getElem_set_self]) (by rw [List.getElem_set_self]) (by rw [List.getElem_set_self]) (by rw [List.getElem_set_self])
  rw [List.set_set] at s2
  have s3 := s2.put1n (by rw [List.length_set]; exact hn) i (by rw [List.length_set]; exact hi) 2 ({ n with kind := k0, num := k1, mat := k2 }, vs) (.int .i64 k2) (by omega) (by rw [List.getElem_set_self]; rfl) (by rw [List.getElem_set_self]) (by rw [List.getElem_set_self]) (by rw [List.getElem_set_self]) (by rw [List.getElem_set_self])
  rw [List.set_set] at s3
  exact s3
set_option maxRecDepth 20000 in
/-- The seven cells of a node. -/
theorem Nt.seven {B g cap m : Nat} {E : List NdE} {w : World} (h : Nt B (.slice (some ⟨g, 0, none⟩) m cap) E w) (hm : E.length = m) (i : Nat) (hi : i < E.length) (e : NdE) (he : E[i] = e) :
    (w.cell? ⟨g, i * 7, none⟩ = some (.int .i64 e.1.kind) ∧ w.cell? ⟨g, i * 7 + 1, none⟩ = some (.int .i64 e.1.num) ∧ w.cell? ⟨g, i * 7 + 2, none⟩ = some (.int .i64 e.1.mat) ∧ w.cell? ⟨g, i * 7 + 3, none⟩ = some (.string e.1.text) ∧ w.cell? ⟨g, i * 7 + 4, none⟩ = some e.2.1 ∧ w.cell? ⟨g, i * 7 + 5, none⟩ = some e.2.2.1 ∧ w.cell? ⟨g, i * 7 + 6, none⟩ = some e.2.2.2) ∧ ∀ j, w.frozen? ⟨g, j, none⟩ = false := by
  subst he hm
  have key : ∀ j, j < 7 → w.cell? ⟨g, i * 7 + j, none⟩ = (cell7 E[i])[j]? := fun j hj => by
    rw [World.ownsRow.cellAt h.row (i * 7 + j) (by omega), ndCells_at E i hi j hj]
  exact ⟨⟨key 0 (by omega), key 1 (by omega), key 2 (by omega), key 3 (by omega), key 4 (by omega), key 5 (by omega), key 6 (by omega)⟩, fun j => World.ownsRow.frozenAt h.row j⟩
set_option maxRecDepth 20000 in
theorem Below.turnP {B : Nat} {W w w' : World} {v : Value} {p : Prop} (h : Below B W w) (hl : ¬ p → ∀ k, v.ownBlock = some k → B ≤ k) (hB : B ≤ w.heap.size) (hg : p ∧ w' = w ∨ ¬ p ∧ w.grownBy w' v.ownBlock) : Below B W w' := by
  rcases hg with ⟨-, rfl⟩ | ⟨hn, hg⟩
  · exact h
  · exact h.grown hg hB (hl hn)
/-- Blocks from S on stay. -/
def Up (S : Nat) (w w' : World) : Prop := w.heap.size ≤ w'.heap.size ∧ ∀ k, S ≤ k → k < w.heap.size → w'.heap[k]? = w.heap[k]?
set_option maxRecDepth 20000 in
theorem Up.refl (S : Nat) (w : World) : Up S w w := ⟨Nat.le_refl _, fun _ _ _ => rfl⟩
set_option maxRecDepth 20000 in
theorem Up.below {S : Nat} {w w1 w2 : World} (h : Up S w w1) (hb : Below w1.heap.size w1 w2) : Up S w w2 := ⟨Nat.le_trans h.1 hb.size, fun k h1 h2 => (hb.block k (Nat.lt_of_lt_of_le h2 h.1)).trans (h.2 k h1 h2)⟩
set_option maxRecDepth 20000 in
theorem Up.set {S g j : Nat} {x : Value} {w w1 : World} (h : Up S w w1) (hg : g < S) : Up S w (w1.setCell ⟨g, j, none⟩ x) := ⟨by have := h.1; simpa using this, fun k h1 h2 => ((grG_set w1 g j x).block k (Nat.lt_of_lt_of_le h2 h.1) (by simp; omega)).trans (h.2 k h1 h2)⟩
set_option maxRecDepth 20000 in
theorem Up.turn {S : Nat} {v : Value} {p : Prop} {w w1 w2 : World} (h : Up S w w1) (hl : ¬ p → ∀ k, v.ownBlock = some k → k < S) (hg : p ∧ w2 = w1 ∨ ¬ p ∧ w1.grownBy w2 v.ownBlock) : Up S w w2 := by
  rcases hg with ⟨-, rfl⟩ | ⟨hn, hg⟩
  · exact h
  · exact ⟨Nat.le_trans h.1 hg.size, fun k h1 h2 => (hg.block k (Nat.lt_of_lt_of_le h2 h.1) (fun e => by have := hl hn k e.symm; omega)).trans (h.2 k h1 h2)⟩
set_option maxHeartbeats 4000000 in
set_option maxRecDepth 20000 in
theorem lawMarkNodes (o : Option Addr) (E : List NdE) (n cap B : Nat) (w : World) (hn : E.length = n) (hM : endN 1 (E.map (·.1)) ≤ 1000000000000) (hf : ∀ e ∈ E, e.1.names.length ≤ 1048576 ∧ e.1.keys.length ≤ 1048576 ∧ e.1.kids.length ≤ 1048576) (hnl : n ≤ 1048576) (hB0 : B ≤ w.heap.size) (h : Nt B (.slice o n cap) E w) (S : Nat) (hS : ∀ k, (Value.slice o n cap).ownBlock = some k → k < S) (hSe : ∀ e ∈ E, (e.1.names ≠ [] → ∀ k, e.2.1.ownBlock = some k → k < S) ∧ (e.1.keys ≠ [] → ∀ k, e.2.2.1.ownBlock = some k → k < S) ∧ (e.1.kids ≠ [] → ∀ k, e.2.2.2.ownBlock = some k → k < S)) :
    Calls Tryz.prog 19 #[.slice o n cap, .int .i64 1] w fun e w' => e = .returned (.int .i64 ((endN 1 (E.map (·.1)) : Nat) : Int)) ∧ Hid (Nt B (.slice o n cap) (mkNE 1 E) w') ∧ Hid (Below B w w') ∧ Hid (Up S w w') := by
  obtain ⟨M, hMM⟩ : ∃ M, endN 1 (E.map (·.1)) = M := ⟨_, rfl⟩
  rw [hMM] at hM ⊢
  have HM : Hid (endN 1 ((E.drop 0).map (·.1)) = M) := hMM
  have H := mkHid h
  have Hn := mkHid hn
  have Hf := mkHid hf
  have HS := mkHid hS
  have HSe := mkHid hSe
  clear h hMM hn hf hS hSe
  go_enter Tryz.func19, Tryz.ntmps19
  go_wp2
  go_loopw [1, 5] (fun m iv wr => ∃ (i q : Nat) (D : List NdE), i ≤ n ∧ iv = .int .i64 i ∧ m = .int .i64 (q : Int) ∧ 0 < q ∧ q ≤ 1000000000000 ∧ D.length = i ∧ Hid (D ++ mkNE q (E.drop i) = mkNE 1 E) ∧ Hid (endN q ((E.drop i).map (·.1)) = M) ∧ Hid (Nt B (.slice o n cap) (D ++ E.drop i) wr) ∧ Hid (Below B w wr) ∧ Hid (Up S w wr)) (fun _ iv _ => n - (Lib.intOf iv).toNat)
  case atStart => exact ⟨0, 1, [], Nat.zero_le _, rfl, rfl, by omega, by omega, rfl, rfl, HM, H, Below.refl _ _, Up.refl _ _⟩
  case round =>
    clear H HM
    obtain ⟨i, q, D, hi, rfl, rfl, hq0, hqb, hDl, hD, hE, hCr, hB, hU⟩ := hrel
    by_cases hlt : i < n
    · have hiE : i < E.length := by rw [Hn.out]; exact hlt
      have hXn : (D ++ E.drop i).length = n := by rw [List.length_append, List.length_drop, hDl, Hn.out]; omega
      have hXi : (D ++ E.drop i)[i]'(by omega) = E[i] := by
        rw [List.getElem_append_right (by omega)]
        simp [hDl]
      have hset : ∀ e : NdE, (D ++ E.drop i).set i e = (D ++ [e]) ++ E.drop (i + 1) := fun e => by
        rw [List.set_append, if_neg (by omega), hDl, Nat.sub_self, List.drop_eq_getElem_cons hiE, List.set_cons_zero]
        simp
      have hD2 := hD.out
      have hE2 := hE.out
      rw [List.drop_eq_getElem_cons hiE, mkNE] at hD2
      rw [List.drop_eq_getElem_cons hiE, List.map_cons, endN] at hE2
      obtain ⟨hfn, hfk, hfd⟩ := Hf.out E[i] (List.getElem_mem hiE)
      have hqe : nxN q E[i].1 ≤ 1000000000000 := by
        have := endN_ge ((E.drop (i + 1)).map (·.1)) (nxN q E[i].1)
        rw [hE2] at this
        omega
      obtain ⟨X, hX⟩ : ∃ X, D ++ E.drop i = X := ⟨_, rfl⟩
      have hCr1 := hCr.out
      rw [hX] at hCr1 hXn hset
      simp only [hX] at hXi
      have hiX : i < X.length := by omega
      obtain ⟨g, hg⟩ : ∃ g, o = some ⟨g, 0, none⟩ := by
        rcases hCr1.row.2 with ⟨h1, h0⟩ | ⟨g, cap', cur, h1, -⟩
        · omega
        · simp only [Value.slice.injEq] at h1
          exact ⟨g, h1.1⟩
      subst hg
      have hgB : B ≤ g := (World.ownsRow.lt hCr1.row g rfl).1
      have hgS : g < S := HS.out g rfl
      obtain ⟨un, uk, ud⟩ := HSe.out E[i] (List.getElem_mem hiE)
      obtain ⟨⟨d0, d1, d2, d3, d4, d5, d6⟩, zf⟩ := hCr1.seven hXn i hiX _ hXi
      obtain ⟨s1, s2⟩ := slots_at X i hiX
      have s3 := kslots_at X i hiX
      rw [hXi] at s1 s2 s3
      have ln := hCr1.own _ (List.mem_of_getElem? s1)
      have lk := hCr1.own _ (List.mem_of_getElem? s2)
      have ld := hCr1.ownN _ (List.mem_of_getElem? s3)
      obtain ⟨⟨on, cn, en⟩, -⟩ := id ln
      obtain ⟨⟨ok, ck, ek⟩, -⟩ := id lk
      obtain ⟨⟨od, cd, ed⟩, -⟩ := id ld
      dsimp only at en ek ed
      have p5 := hCr1.put3 hXn i hiX (q : Int) ((q + 1 : Nat) : Int) ((q + 2 : Nat) : Int) E[i].1 E[i].2 hXi
      obtain ⟨⟨⟨kind, num, mat, text, names, keys, kids⟩, vn, vk, vd⟩, hEi⟩ : ∃ e, E[i] = e := ⟨_, rfl⟩
      rw [hEi] at d0 d1 d2 d3 d4 d5 d6 en ek ed p5 hD2 hE2 hqe hfn hfk hfd ln lk ld un uk ud
      dsimp only at d0 d1 d2 d3 d4 d5 d6 en ek ed p5 hfn hfk hfd ln lk ld un uk ud
      replace un := mkHid un
      replace uk := mkHid uk
      replace ud := mkHid ud
      subst en ek ed
      unfold nxN at hqe hE2 hD2
      dsimp only at hqe hE2 hD2
      have z0 := zf (i * 7)
      have z1 := zf (i * 7 + 1)
      have z2 := zf (i * 7 + 2)
      obtain ⟨V1, hV1⟩ : ∃ V1, ((wr.setCell ⟨g, i * 7, none⟩ (.int .i64 (q : Int))).setCell ⟨g, i * 7 + 1, none⟩ (.int .i64 ((q + 1 : Nat) : Int))).setCell ⟨g, i * 7 + 2, none⟩ (.int .i64 ((q + 2 : Nat) : Int)) = V1 := ⟨_, rfl⟩
      rw [hV1] at p5
      have hBV1 : Below B w V1 := by
        rw [← hV1]
        exact ((hB.out.setCell (p := ⟨g, i * 7, none⟩) hgB _).setCell (p := ⟨g, i * 7 + 1, none⟩) hgB _).setCell (p := ⟨g, i * 7 + 2, none⟩) hgB _
      have hU1 := mkHid (show Up S w V1 by rw [← hV1]; exact ((hU.out.set hgS).set hgS).set hgS)
      have cT := mkHid (markText (q + 3) V1 (by omega) (by omega))
      have HV1 := mkHid hV1
      have P5 := mkHid p5
      have HBV1 := mkHid hBV1
      have HD2 := mkHid hD2
      have HE2 := mkHid hE2
      have HXN := mkHid hXn
      have HSET := mkHid hset
      have HX := mkHid hX
      have hadd := add_off g (i * 7)
      clear hD hE hCr hB hU hCr1 hXi hset hD2 hE2 hX s1 s2 s3 ln lk ld p5 hV1 hBV1 hEi zf d3 d4 d5 d6
      have r1 : (q : Int) + 1 = ((q + 1 : Nat) : Int) := rfl
      have r2 : ((q + 1 : Nat) : Int) + 1 = ((q + 2 : Nat) : Int) := rfl
      have r3 : ((q + 2 : Nat) : Int) + 1 = ((q + 3 : Nat) : Int) := rfl
      have R := mkHid (And.intro r1 (And.intro r2 r3))
      clear r1 r2 r3
      go_wp2_with (go_at_call 41; fail)
      rw [R.out.1, R.out.2.1, R.out.2.2, HV1.out]
      refine cT.out.mono ?_
      rintro e w1 ⟨rfl, hb1⟩
      have c1 := P5.out.below hb1
      have hXs : ∀ e : NdE, (X.set i e).length = n := fun e => by rw [List.length_set]; exact HXN.out
      have hiS : ∀ e : NdE, i < (X.set i e).length := fun e => by rw [List.length_set]; exact hiX
      obtain ⟨⟨-, -, -, d3, d4, d5, d6⟩, zf⟩ := c1.seven (hXs _) i (hiS _) _ (List.getElem_set_self _)
      have z3 := zf (i * 7 + 3)
      dsimp only at d3
      obtain ⟨mt, hmt⟩ : ∃ mt, markR (q + 3) = mt := ⟨_, rfl⟩
      have c2 := c1.put1n (hXs _) i (hiS _) 3 (⟨(q : Int), ((q + 1 : Nat) : Int), ((q + 2 : Nat) : Int), mt, names, keys, kids⟩, .slice on names.length cn, .slice ok keys.length ck, .slice od kids.length cd) (.string mt) (by omega) (by rw [List.getElem_set_self]; rfl) (by rw [List.getElem_set_self]) (by rw [List.getElem_set_self]) (by rw [List.getElem_set_self]) (by rw [List.getElem_set_self])
      rw [List.set_set] at c2
      have hBw1 := HBV1.out.trans (hb1.mono (by have := HBV1.out.size; omega))
      obtain ⟨V2, hV2⟩ : ∃ V2, w1.setCell ⟨g, i * 7 + 3, none⟩ (.string mt) = V2 := ⟨_, rfl⟩
      rw [hV2] at c2
      have hBV2 : Below B w V2 := by rw [← hV2]; exact hBw1.setCell (p := ⟨g, i * 7 + 3, none⟩) hgB _
      have hU2 := mkHid (show Up S w V2 by rw [← hV2]; exact (hU1.out.below hb1).set hgS)
      obtain ⟨⟨-, -, -, -, f4, f5, f6⟩, -⟩ := c2.seven (hXs _) i (hiS _) _ (List.getElem_set_self _)
      dsimp only at f4
      obtain ⟨s1, s2⟩ := slots_at _ i (hiS _)
      rw [List.getElem_set_self] at s1 s2
      have ln := c2.own _ (List.mem_of_getElem? s1)
      have cN := mkHid (lawMarkLs _ names B (q + 4) V2 hfn (by omega) (by omega) ln)
      have f4' : (w1.setCell ⟨g, i * 7 + 3, none⟩ (.string mt)).cell? ⟨g, i * 7 + 4, none⟩ = some (.slice on names.length cn) := by rw [hV2]; exact f4
      have C2 := mkHid c2
      have HBV2 := mkHid hBV2
      have Ln := mkHid ln
      have HV2 := mkHid hV2
      have Hmt := mkHid hmt
      unfold markR at hmt
      rw [hmt]
      clear hmt hb1 c1 c2 zf hBw1 hBV2 s1 s2 ln cT P5 HV1 HBV1 d0 d1 d2 d4 d5 d6 z0 z1 z2 f4 f5 f6 hV2
      go_wp2_with (go_at_call 42; fail)
      rw [show (q : Int) + 3 + 1 = ((q + 4 : Nat) : Int) from rfl, HV2.out]
      refine cN.out.mono ?_
      rintro e w2 ⟨rfl, ln2, hg2⟩
      have c3 := C2.out.namesN (hXs _) i (hiS _) (q + 4) names (.slice on names.length cn) (by rw [List.getElem_set_self]) (by rw [List.getElem_set_self]) ln2.out hg2.out
      simp only [List.getElem_set_self, List.set_set] at c3
      have hU3 := mkHid (hU2.out.turn un.out hg2.out)
      have hB2 : Below B w w2 := Below.turnP HBV2.out (fun hn k hk => (World.ownsRow.lt (Ln.out.2 hn) k hk).1) (by have := HBV2.out.size; omega) hg2.out
      obtain ⟨⟨-, -, -, -, -, t5, -⟩, -⟩ := c3.seven (hXs _) i (hiS _) _ (List.getElem_set_self _)
      dsimp only at t5
      obtain ⟨s1, s2⟩ := slots_at _ i (hiS (⟨(q : Int), ((q + 1 : Nat) : Int), ((q + 2 : Nat) : Int), mt, marksR (q + 4) names.length, keys, kids⟩, .slice on names.length cn, .slice ok keys.length ck, .slice od kids.length cd))
      rw [List.getElem_set_self] at s1 s2
      have lk := c3.own _ (List.mem_of_getElem? s2)
      obtain ⟨m1, hm1⟩ : ∃ m, q + 4 + names.length = m := ⟨_, rfl⟩
      have cK := mkHid (lawMarkLs _ keys B m1 w2 hfk (by omega) (by omega) lk)
      have C3 := mkHid c3
      have HB2 := mkHid hB2
      have Lk := mkHid lk
      have Hm1 := mkHid hm1
      rw [hm1]
      clear c3 hB2 lk s1 s2 cN C2 HBV2 Ln HV2 f4' ln2 hg2 d3 z3 hm1
      go_wp2_with (go_at_call 42; fail)
      refine cK.out.mono ?_
      rintro e w3 ⟨rfl, lk3, hg3⟩
      have c4 := C3.out.keysN (hXs _) i (hiS _) m1 keys (.slice ok keys.length ck) (by rw [List.getElem_set_self]) (by rw [List.getElem_set_self]) lk3.out hg3.out
      simp only [List.getElem_set_self, List.set_set] at c4
      have hU4 := mkHid (hU3.out.turn uk.out hg3.out)
      have hB3 : Below B w w3 := Below.turnP HB2.out (fun hn k hk => (World.ownsRow.lt (Lk.out.2 hn) k hk).1) (by have := HB2.out.size; omega) hg3.out
      obtain ⟨⟨-, -, -, -, -, -, t6⟩, -⟩ := c4.seven (hXs _) i (hiS _) _ (List.getElem_set_self _)
      dsimp only at t6
      have s3 := kslots_at _ i (hiS (⟨(q : Int), ((q + 1 : Nat) : Int), ((q + 2 : Nat) : Int), mt, marksR (q + 4) names.length, marksR m1 keys.length, kids⟩, .slice on names.length cn, .slice ok keys.length ck, .slice od kids.length cd))
      rw [List.getElem_set_self] at s3
      have ld := c4.ownN _ (List.mem_of_getElem? s3)
      obtain ⟨m2, hm2⟩ : ∃ m, m1 + keys.length = m := ⟨_, rfl⟩
      have cI := mkHid (lawMarkLn _ kids B m2 w3 hfd (by have := Hm1.out; omega) ld)
      have C4 := mkHid c4
      have HB3 := mkHid hB3
      have Ld := mkHid ld
      have Hm2 := mkHid hm2
      rw [hm2]
      clear c4 hB3 cK C3 HB2 Lk lk3 hg3 t5 hm2 s3 ld
      go_wp2_with (go_at_call 43; fail)
      refine cI.out.mono ?_
      rintro e w4 ⟨rfl, ld4, hg4⟩
      have c5 := C4.out.kidsN (hXs _) i (hiS _) m2 kids (.slice od kids.length cd) (by rw [List.getElem_set_self]) (by rw [List.getElem_set_self]) ld4.out hg4.out
      simp only [List.getElem_set_self, List.set_set] at c5
      have hU5 := mkHid (hU4.out.turn ud.out hg4.out)
      have hB4 : Below B w w4 := Below.turnP HB3.out (fun hn k hk => (World.ownsRow.lt (Ld.out.2 hn) k hk).1) (by have := HB3.out.size; omega) hg4.out
      obtain ⟨m3, hm3⟩ : ∃ m, m2 + kids.length = m := ⟨_, rfl⟩
      rw [HSET.out] at c5
      have C5 := mkHid c5
      have HB4 := mkHid hB4
      have Hm3 := mkHid hm3
      rw [hm3]
      have hm3b : m3 ≤ 1000000000000 := by have := Hm1.out; have := Hm2.out; omega
      have hm30 : 0 < m3 := by have := Hm1.out; have := Hm2.out; omega
      clear cI t6 c5 hB4 ld4 hg4 HB3 Ld C4 hm3
      have HDn : Hid ((D ++ [(mkN q ⟨kind, num, mat, text, names, keys, kids⟩, (.slice on names.length cn, .slice ok keys.length ck, .slice od kids.length cd))]) ++ mkNE m3 (E.drop (i + 1)) = mkNE 1 E) := by
        show _ = _
        rw [← HD2.out, ← Hm3.out, ← Hm2.out, ← Hm1.out, List.append_assoc]
        rfl
      have HEn : Hid (endN m3 ((E.drop (i + 1)).map (·.1)) = M) := by
        show _ = _
        rw [← HE2.out, ← Hm3.out, ← Hm2.out, ← Hm1.out]
      have HCn : Hid (Nt B (.slice (some ⟨g, 0, none⟩) n cap) ((D ++ [(mkN q ⟨kind, num, mat, text, names, keys, kids⟩, (.slice on names.length cn, .slice ok keys.length ck, .slice od kids.length cd))]) ++ E.drop (i + 1)) w4) := by
        have := C5.out
        rw [← Hm2.out, ← Hm1.out, ← Hmt.out] at this
        exact this
      clear C5 HD2 HE2 Hm1 Hm2 Hm3 Hmt HSET HX
      go_wp2
      go_roundw
      case rel => exact ⟨i + 1, m3, _, by omega, by go_num, by go_num, hm30, hm3b, by simp; omega, HDn, HEn, HCn, HB4, hU5⟩
      case measure => simp [Lib.intOf]; omega
    · have hd : E.drop i = [] := List.drop_eq_nil_of_le (by rw [Hn.out]; omega)
      have hD1 := hD.out
      have hE1 := hE.out
      have hR1 := hCr.out
      rw [hd] at hD1 hE1 hR1
      simp only [mkNE, List.append_nil, List.map_nil, endN] at hD1 hE1 hR1
      rw [hD1] at hR1
      have HE1 := mkHid hE1
      have HR1 := mkHid hR1
      clear hD hE hCr hd hD1 hE1 hR1
      go_wp2
      go_ret
      exact ⟨by have := HE1.out; subst this; rfl, HR1, hB, hU⟩
end Go.Proofs.YtlphojaeaogehaaGreatDoor
namespace Go.Proofs.YtlphojaeaogehaaGreatDoor
open Go.RowKit Go.Lib Go.Maps
set_option maxHeartbeats 8000000 in
set_option maxRecDepth 20000 in
theorem lawHeldNodes (o : Option Addr) (E : List NdE) (n cap B : Nat) (w : World) (hn : E.length = n) (hM : endN 1 (E.map (·.1)) ≤ 1000000000000) (hf : ∀ e ∈ E, e.1.names.length ≤ 1048576 ∧ e.1.keys.length ≤ 1048576 ∧ e.1.kids.length ≤ 1048576) (hnl : n ≤ 1048576) (h : Nt B (.slice o n cap) (mkNE 1 E) w) :
    Calls Tryz.prog 20 #[.slice o n cap, .int .i64 1] w fun e w' => e = .returned (.int .i64 ((endN 1 (E.map (·.1)) : Nat) : Int)) ∧ Below w.heap.size w w' := by
  obtain ⟨M, hMM⟩ : ∃ M, endN 1 (E.map (·.1)) = M := ⟨_, rfl⟩
  rw [hMM] at hM ⊢
  have HM : Hid (endN 1 ((E.drop 0).map (·.1)) = M) := hMM
  have H := mkHid h
  have Hn := mkHid hn
  have Hf := mkHid hf
  clear h hMM hn hf
  go_enter Tryz.func20, Tryz.ntmps20
  go_wp2
  go_loopw [1, 5] (fun m iv wr => ∃ (i q : Nat), i ≤ n ∧ iv = .int .i64 i ∧ m = .int .i64 (q : Int) ∧ 0 < q ∧ q ≤ 1000000000000 ∧ Hid ((mkNE 1 E).drop i = mkNE q (E.drop i)) ∧ Hid (endN q ((E.drop i).map (·.1)) = M) ∧ Hid (Below w.heap.size w wr)) (fun _ iv _ => n - (Lib.intOf iv).toNat)
  case atStart => exact ⟨0, 1, Nat.zero_le _, rfl, rfl, by omega, by omega, rfl, HM, Below.refl _ _⟩
  case round =>
    clear HM
    obtain ⟨i, q, hi, rfl, rfl, hq0, hqb, hD, hE, hB⟩ := hrel
    by_cases hlt : i < n
    · have hiE : i < E.length := by rw [Hn.out]; exact hlt
      have hiM : i < (mkNE 1 E).length := by rw [mkNE_len]; exact hiE
      have hMl : (mkNE 1 E).length = n := by rw [mkNE_len]; exact Hn.out
      have hD2 := hD.out
      have hE2 := hE.out
      rw [List.drop_eq_getElem_cons hiE, mkNE, List.drop_eq_getElem_cons hiM] at hD2
      rw [List.drop_eq_getElem_cons hiE, List.map_cons, endN] at hE2
      obtain ⟨hD3, hD4⟩ := List.cons_eq_cons.1 hD2
      obtain ⟨hfn, hfk, hfd⟩ := Hf.out E[i] (List.getElem_mem hiE)
      have hqe : nxN q E[i].1 ≤ 1000000000000 := by
        have := endN_ge ((E.drop (i + 1)).map (·.1)) (nxN q E[i].1)
        rw [hE2] at this
        omega
      have hCr := H.out.below hB.out
      obtain ⟨g, hg⟩ : ∃ g, o = some ⟨g, 0, none⟩ := by
        rcases hCr.row.2 with ⟨h1, h0⟩ | ⟨g, cap', cur, h1, -⟩
        · omega
        · simp only [Value.slice.injEq] at h1
          exact ⟨g, h1.1⟩
      subst hg
      obtain ⟨s1, s2⟩ := slots_at (mkNE 1 E) i hiM
      have s3 := kslots_at (mkNE 1 E) i hiM
      have hnine := hCr.seven hMl i hiM _ hD3
      rw [hD3] at s1 s2 s3
      have ln := hCr.own _ (List.mem_of_getElem? s1)
      have lk := hCr.own _ (List.mem_of_getElem? s2)
      have ld := hCr.ownN _ (List.mem_of_getElem? s3)
      obtain ⟨on, cn, en, tn⟩ := ln.tx
      obtain ⟨ok, ck, ek, tk⟩ := lk.tx
      obtain ⟨od, cd, ed, td⟩ := ld.ints
      dsimp only [mkN] at en ek ed tn tk td
      obtain ⟨⟨d0, d1, d2, d3, d4, d5, d6⟩, -⟩ := hnine
      dsimp only [mkN] at d0 d1 d2 d3 d4 d5 d6
      rw [marksR_len] at en ek
      rw [nums_len] at ed
      rw [en] at d4
      rw [ek] at d5
      rw [ed] at d6
      unfold nxN at hqe hE2 hD4
      have hgl : g < wr.heap.size := (World.ownsRow.lt hCr.row g rfl).2
      generalize E[i].1.names.length = ln1 at *
      generalize E[i].1.keys.length = lk1 at *
      generalize E[i].1.kids.length = ld1 at *
      have cN := mkHid (fun (W : World) (hb : Below wr.heap.size wr W) => lawHeldLs (.slice on ln1 cn) ln1 (q + 4) W hfn (by omega) (by omega) on cn rfl ((tn.below hb).mono hb.size))
      have cK := mkHid (fun (W : World) (hb : Below wr.heap.size wr W) => lawHeldLs (.slice ok lk1 ck) lk1 (q + 4 + ln1) W hfk (by omega) (by omega) ok ck rfl ((tk.below hb).mono hb.size))
      have cI := mkHid (fun (W : World) (hb : Below wr.heap.size wr W) => lawHeldLn (.slice od ld1 cd) ld1 (q + 4 + ln1 + lk1) W hfd (by omega) od cd rfl ((td.below hb).mono hb.size))
      have Hc := mkHid (fun (w2 : World) (hb2 : Below wr.heap.size wr w2) => (hb2.cell (p := ⟨g, i * 7 + 3, none⟩) hgl).trans d3)
      have Hc6 := mkHid (fun (w2 : World) (hb2 : Below wr.heap.size wr w2) => (hb2.cell (p := ⟨g, i * 7 + 4, none⟩) hgl).trans d4)
      have Hc7 := mkHid (fun (w2 : World) (hb2 : Below wr.heap.size wr w2) => (hb2.cell (p := ⟨g, i * 7 + 5, none⟩) hgl).trans d5)
      have Hc8 := mkHid (fun (w2 : World) (hb2 : Below wr.heap.size wr w2) => (hb2.cell (p := ⟨g, i * 7 + 6, none⟩) hgl).trans d6)
      have hmk := mkHid (fun W => markText (q + 3) W (by omega) (by omega))
      unfold markR at d3 Hc
      have zq : ∀ x : ByteArray, (x.toList != x.toList) = false := fun x => by simp
      have zq2 := zq ⟨(Pl.mark (q + 3)).toArray⟩
      generalize (⟨(Pl.mark (q + 3)).toArray⟩ : ByteArray) = x at *
      have hbr : Below wr.heap.size wr wr := Below.refl _ _
      rw [show ((q + 1 : Nat) : Int) = (q : Int) + 1 from rfl] at d1
      rw [show ((q + 2 : Nat) : Int) = (q : Int) + 1 + 1 from rfl] at d2
      have u0 : ((q : Int) != (q : Int)) = false := by simp
      have u1 : ((q : Int) + 1 != (q : Int) + 1) = false := by simp
      have u2 : ((q : Int) + 1 + 1 != (q : Int) + 1 + 1) = false := by simp
      have hadd := add_off g (i * 7)
      have HD4 := mkHid hD4
      have HE2 := mkHid hE2
      clear zq H hD hE hD2 hE2 hD3 hD4 hCr s1 s2 s3 ln lk ld tn tk td en ek ed hfn hfk hfd d4 d5 d6
      go_wp2
      have cS : wr.drew.cell? ⟨g, i * 7 + 3, none⟩ = some (.string x) := d3
      refine wp_region_held (S := fun w => w.cell? ⟨g, i * 7 + 3, none⟩ = some (.string x)) (by kernel_rfl) ?_
      refine wpAnyH_take (i := 0) (v := .slice (some ⟨g, 0, none⟩) n cap) rfl (by kernel_rfl) (by kernel_rfl) (by kernel_rfl) (fun _ _ _ h => h) (Or.inl ⟨by rfl, ?_⟩) cS ?_
      · intro w sS
        go_simp
        all_goals first | done | (intro h; exfalso; omega) | omega
      go_simp
      refine wpAnyH_take (i := 1) (v := .int .i64 (i : Int)) rfl (by kernel_rfl) (by kernel_rfl) (by kernel_rfl) (fun _ _ _ h => h) (Or.inl ⟨by rfl, ?_⟩) cS ?_
      · intro w sS
        go_simp
        all_goals first | done | (intro h; exfalso; omega) | omega
      go_simp
      refine wpAnyH_take (i := 2) (v := .pointer (some ⟨g, i * 7, none⟩)) rfl (by kernel_rfl) (by kernel_rfl) (by kernel_rfl) (fun _ _ _ h => h) (Or.inl ⟨by rfl, ?_⟩) cS ?_
      · intro w sS
        go_simp
        all_goals first | done | (intro h; exfalso; omega) | omega
      go_simp
      refine wpAnyH_take (i := 3) (v := .pointer (some ⟨g, i * 7 + 3, none⟩)) rfl (by kernel_rfl) (by kernel_rfl) (by kernel_rfl) (fun _ _ _ h => h) (Or.inl ⟨by rfl, ?_⟩) cS ?_
      · intro w sS
        go_simp
        all_goals first | done | (intro h; exfalso; omega) | omega
      go_simp
      refine wpAnyH_take (i := 4) (v := .string x) rfl (by kernel_rfl) (by kernel_rfl) (by kernel_rfl) (fun _ _ _ h => h) (Or.inl ⟨by rfl, ?_⟩) cS ?_
      · intro w sS
        go_simp
        all_goals first | done | (intro h; exfalso; omega) | omega
      go_simp
      refine wpAnyH_take (i := 5) (v := .int .i64 ((q : Int) + 1 + 1 + 1)) rfl (by kernel_rfl) (by kernel_rfl) (by kernel_rfl) (fun _ _ _ h => h) (Or.inl ⟨by rfl, ?_⟩) cS ?_
      · intro w sS
        go_simp
        all_goals first | done | (intro h; exfalso; omega) | omega
      go_simp
      refine wpAnyH_all (rs := [6]) (by kernel_rfl) (by simp) ?_
      intro p hp
      simp only [List.mem_cons, List.not_mem_nil, or_false] at hp
      subst hp
      refine wpOp_step rfl (fun K hK => ?_)
      go_simp
      refine (hmk.out _).mono ?_
      rintro e w1 ⟨rfl, hb1'⟩
      have hb1 : Below wr.heap.size wr w1 := (Below.refl wr.heap.size wr).drew.trans hb1'
      have cS1 : w1.cell? ⟨g, i * 7 + 3, none⟩ = some (.string x) := Hc.out w1 hb1
      refine hK _ _ ⟨cS1, ?_⟩
      clear hK K hb1'
      go_simp
      refine wpAnyH_take (i := 7) (v := .bool false) rfl (by kernel_rfl) (by kernel_rfl) (by kernel_rfl) (fun _ _ _ h => h) (Or.inl ⟨by rfl, ?_⟩) cS1 ?_
      · intro w sS
        go_simp
        all_goals first | done | (intro h; exfalso; omega) | omega
      go_simp
      refine wpAnyH_done (by kernel_rfl) ?_ _
      have d4 := Hc6.out w1 hb1
      have HB1 := mkHid hb1
      have kN := mkHid (cN.out w1 hb1)
      clear cS cS1 d0 d1 d2 d3 hb1 hbr u0 u1 u2 hmk Hc zq2 cN
      go_wp2_with (go_at_call 44; fail)
      refine kN.out.mono ?_
      rintro e w2 ⟨rfl, hb2⟩
      have hB2 := HB1.out.trans (hb2.mono HB1.out.size)
      have d5 := Hc7.out w2 hB2
      have kK := mkHid (cK.out w2 hB2)
      have HB2 := mkHid hB2
      obtain ⟨m1, hm1⟩ : ∃ m, q + 4 + ln1 = m := ⟨_, rfl⟩
      rw [hm1] at kK cI
      rw [hm1]
      have u5 : decide ((m1 : Int) < 0) = false := decide_eq_false (by omega)
      have Hm1 := mkHid hm1
      clear hb2 hB2 d4 kN HB1 cK Hc7 Hc6 hm1
      go_wp2_with (go_at_call 44; fail)
      refine kK.out.mono ?_
      rintro e w3 ⟨rfl, hb3⟩
      have hB3 := HB2.out.trans (hb3.mono HB2.out.size)
      have d6 := Hc8.out w3 hB3
      have kI := mkHid (cI.out w3 hB3)
      have HB3 := mkHid hB3
      obtain ⟨m2, hm2⟩ : ∃ m, m1 + lk1 = m := ⟨_, rfl⟩
      rw [hm2] at kI
      rw [hm2]
      have u6 : decide ((m2 : Int) < 0) = false := decide_eq_false (by omega)
      have Hm2 := mkHid hm2
      clear hb3 hB3 d5 kK HB2 Hc8 hm2 cI
      go_wp2_with (go_at_call 45; fail)
      refine kI.out.mono ?_
      rintro e w4 ⟨rfl, hb4⟩
      have hB4' := HB3.out.trans (hb4.mono HB3.out.size)
      obtain ⟨m3, hm3⟩ : ∃ m, m2 + ld1 = m := ⟨_, rfl⟩
      rw [hm3]
      have u7 : decide ((m3 : Int) < 0) = false := decide_eq_false (by omega)
      have HD5 : Hid ((mkNE 1 E).drop (i + 1) = mkNE m3 (E.drop (i + 1))) := by
        show _ = _
        rw [HD4.out, ← hm3, ← Hm2.out, ← Hm1.out]
      have HE5 : Hid (endN m3 ((E.drop (i + 1)).map (·.1)) = M) := by
        show _ = _
        rw [← hm3, ← Hm2.out, ← Hm1.out]
        exact HE2.out
      have hB4 := mkHid (hB.out.trans (hB4'.mono hB.out.size))
      have hm3b : m3 ≤ 1000000000000 := by have := Hm1.out; have := Hm2.out; omega
      have hm30 : 0 < m3 := by have := Hm1.out; have := Hm2.out; omega
      clear kI d6 HB3 HD4 HE2 Hm1 Hm2 hm3 hb4 hB4'
      go_wp2
      go_roundw
      case rel => exact ⟨i + 1, m3, by omega, by go_num, by go_num, hm30, hm3b, HD5, HE5, hB4⟩
      case measure => simp [Lib.intOf]; omega
    · have hd : E.drop i = [] := List.drop_eq_nil_of_le (by rw [Hn.out]; omega)
      have hE1 := hE.out
      rw [hd] at hE1
      simp only [List.map_nil, endN] at hE1
      have HE1 := mkHid hE1
      clear hD hE hd hE1
      go_wp2
      go_ret
      exact ⟨by have := HE1.out; subst this; rfl, hB.out⟩
end Go.Proofs.YtlphojaeaogehaaGreatDoor
namespace Go.Proofs.YtlphojaeaogehaaGreatDoor
open Go.RowKit Go.Lib Go.Maps
abbrev trV (c l : Int) (o : Option Addr) (n cap : Nat) : Value := .agg #[.int .i64 c, .int .i64 l, .slice o n cap]
set_option maxRecDepth 20000 in
set_option maxHeartbeats 2000000 in
theorem lawEqTree (c l : Int) (F : List Nd) (a b : Option Addr) (cap cap' : Nat) (w : World) (hF : Nds w.heap.size w a F) (hG : Nds w.heap.size w b F) (hlen : F.length ≤ 1048576) (hfit : ∀ f ∈ F, f.fits 1048576) :
    Calls Tryz.prog 6 #[trV c l a F.length cap, trV c l b F.length cap'] w fun e w' => e = .returned (.bool true) ∧ Below w.heap.size w w' := by
  obtain ⟨W, hW⟩ : ∃ W, (w.alloc (.cells #[.int .i64 c, .int .i64 l, .slice a F.length cap] 24)).alloc (.cells #[.int .i64 c, .int .i64 l, .slice b F.length cap'] 24) = W := ⟨_, rfl⟩
  have hb : Below w.heap.size w W := by rw [← hW]; exact ((Below.refl _ _).alloc (Nat.le_refl _) _).alloc (by simp) _
  have kE := mkHid (lawEqNodes a b F cap cap' W ((hF.below hb).mono hb.size) ((hG.below hb).mono hb.size) hlen hfit)
  have u1 : (c != c) = false := by simp
  have u2 : (l != l) = false := by simp
  have HW := mkHid hW
  have Hb := mkHid hb
  clear hF hG hfit hW hb
  go_enter Tryz.func6, Tryz.ntmps6
  go_wp2_with (go_at_call 18; fail)
  rw [HW.out]
  refine kE.out.mono ?_
  rintro e w1 ⟨rfl, hb1⟩
  have hfin := mkHid (Hb.out.trans (hb1.mono Hb.out.size))
  clear kE hb1 HW Hb
  go_wp2
  go_ret
  exact ⟨rfl, hfin.out⟩
set_option maxRecDepth 20000 in
set_option maxHeartbeats 2000000 in
theorem lawMarkTree (c l : Int) (o : Option Addr) (E : List NdE) (n cap B : Nat) (w : World) (hn : E.length = n) (hM : endN 1 (E.map (·.1)) ≤ 1000000000000) (hf : ∀ e ∈ E, e.1.names.length ≤ 1048576 ∧ e.1.keys.length ≤ 1048576 ∧ e.1.kids.length ≤ 1048576) (hnl : n ≤ 1048576) (hB0 : B ≤ w.heap.size) (h : Nt B (.slice o n cap) E w) (S : Nat) (hS : ∀ k, (Value.slice o n cap).ownBlock = some k → k < S) (hSe : ∀ e ∈ E, (e.1.names ≠ [] → ∀ k, e.2.1.ownBlock = some k → k < S) ∧ (e.1.keys ≠ [] → ∀ k, e.2.2.1.ownBlock = some k → k < S) ∧ (e.1.kids ≠ [] → ∀ k, e.2.2.2.ownBlock = some k → k < S)) :
    Calls Tryz.prog 7 #[trV c l o n cap, .int .i64 1] w fun e w' => e = .returned (.int .i64 ((endN 1 (E.map (·.1)) : Nat) : Int)) ∧ Hid (Nt B (.slice o n cap) (mkNE 1 E) w') ∧ Hid (Below B w w') ∧ Hid (Up S w w') := by
  obtain ⟨W, hW⟩ : ∃ W, w.alloc (.cells #[.int .i64 c, .int .i64 l, .slice o n cap] 24) = W := ⟨_, rfl⟩
  have hb : Below w.heap.size w W := by rw [← hW]; exact (Below.refl _ _).alloc (Nat.le_refl _) _
  have kM := mkHid (lawMarkNodes o E n cap B W hn hM hf hnl (Nat.le_trans hB0 hb.size) (h.below hb) S hS hSe)
  obtain ⟨M, hMM⟩ : ∃ M, endN 1 (E.map (·.1)) = M := ⟨_, rfl⟩
  rw [hMM] at kM ⊢
  have HW := mkHid hW
  have Hb := mkHid hb
  clear hf h hW hb hS hSe hM hMM
  go_enter Tryz.func7, Tryz.ntmps7
  go_wp2_with (go_at_call 19; fail)
  rw [HW.out]
  refine kM.out.mono ?_
  rintro e w1 ⟨rfl, n1, b1, u1⟩
  have hb2 : Hid (Below B w w1) := (Hb.out.mono hB0).trans b1.out
  have hu2 : Hid (Up S w w1) := ⟨Nat.le_trans Hb.out.size u1.out.1, fun k h1 h2 => (u1.out.2 k h1 (Nat.lt_of_lt_of_le h2 Hb.out.size)).trans (Hb.out.block k h2)⟩
  clear kM b1 u1 HW Hb
  go_wp2
  go_ret
  exact ⟨rfl, n1, hb2, hu2⟩
set_option maxRecDepth 20000 in
set_option maxHeartbeats 2000000 in
theorem lawHeldTree (c l : Int) (o : Option Addr) (E : List NdE) (n cap B : Nat) (w : World) (hn : E.length = n) (hM : endN 1 (E.map (·.1)) ≤ 1000000000000) (hf : ∀ e ∈ E, e.1.names.length ≤ 1048576 ∧ e.1.keys.length ≤ 1048576 ∧ e.1.kids.length ≤ 1048576) (hnl : n ≤ 1048576) (h : Nt B (.slice o n cap) (mkNE 1 E) w) :
    Calls Tryz.prog 8 #[trV c l o n cap, .int .i64 1] w fun e w' => e = .returned (.int .i64 ((endN 1 (E.map (·.1)) : Nat) : Int)) ∧ Below w.heap.size w w' := by
  obtain ⟨W, hW⟩ : ∃ W, w.alloc (.cells #[.int .i64 c, .int .i64 l, .slice o n cap] 24) = W := ⟨_, rfl⟩
  have hb : Below w.heap.size w W := by rw [← hW]; exact (Below.refl _ _).alloc (Nat.le_refl _) _
  have kH := mkHid (lawHeldNodes o E n cap B W hn hM hf hnl (h.below hb))
  obtain ⟨M, hMM⟩ : ∃ M, endN 1 (E.map (·.1)) = M := ⟨_, rfl⟩
  rw [hMM] at kH ⊢
  have u1 : decide ((M : Int) < 0) = false := decide_eq_false (by omega)
  have HW := mkHid hW
  have Hb := mkHid hb
  clear hf h hW hb hM hMM
  go_enter Tryz.func8, Tryz.ntmps8
  go_wp2_with (go_at_call 20; fail)
  rw [HW.out]
  refine kH.out.mono ?_
  rintro e w1 ⟨rfl, hb1⟩
  have hfin := mkHid (Hb.out.trans (hb1.mono Hb.out.size))
  clear kH hb1 HW Hb
  go_wp2
  go_ret
  exact ⟨rfl, hfin.out⟩
end Go.Proofs.YtlphojaeaogehaaGreatDoor
