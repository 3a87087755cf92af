
/- The law's marks on replies that were answered. -/
import Derived.Test.YtmclnkcpflehdaaDoorReplyMem2
import Derived.Test.YtmclnkcpflehdaaDoorMarkText
namespace Go.Proofs.YtmclnkcpflehdaaDoor
open Go.RowKit Go.Lib Go.Maps
def markR (n : Nat) : ByteArray := ⟨(Pl.mark n).toArray⟩
/-- n marks from k on. -/
def marksR (k n : Nat) : List ByteArray := (List.range n).map fun j => markR (k + j)
set_option maxRecDepth 20000 in
theorem marksR_len (k n : Nat) : (marksR k n).length = n := by simp [marksR]
set_option maxRecDepth 20000 in
theorem marksR_get (k n j : Nat) (h : j < (marksR k n).length) : (marksR k n)[j] = markR (k + j) := by simp [marksR]
set_option maxRecDepth 20000 in
theorem marksR_set (k : Nat) (P : List ByteArray) (i : Nat) (h : i < P.length) : (marksR k i ++ P.drop i).set i (markR (k + i)) = marksR k (i + 1) ++ P.drop (i + 1) := by
  rw [List.drop_eq_getElem_cons h]
  have e : marksR k (i + 1) = marksR k i ++ [markR (k + i)] := by simp [marksR, List.range_succ]
  rw [e, List.set_append, if_neg (by rw [marksR_len]; omega), marksR_len, Nat.sub_self, List.set_cons_zero, List.append_assoc]
  rfl
set_option maxRecDepth 20000 in
theorem grownBelowR {w w' : World} {r : Option Nat} (hb : Below w.heap.size w w') : w.grownBy w' r := ⟨hb.os, hb.tape, hb.output, hb.size, fun k hk _ => hb.block k hk⟩
set_option maxRecDepth 20000 in
set_option maxHeartbeats 1000000 in
theorem lawMarkR (o : Option Addr) (P : List ByteArray) (cap B k0 : Nat) (w : World) (hl : P.length ≤ 900000) (hk0 : 0 < k0) (hk1 : k0 ≤ 1000000000) (h : OwnX B (.slice o P.length cap) P w) :
    Calls Tryd.prog 26 #[.slice o P.length cap, .int .i64 (k0 : Int)] w fun e w' => e = .returned (.int .i64 ((k0 + P.length : Nat) : Int)) ∧ Hid (OwnX B (.slice o P.length cap) (marksR k0 P.length) w') ∧ Hid (w.grownBy w' (Value.slice o P.length cap).ownBlock) := by
  have H := mkHid h
  clear h
  go_enter Tryd.func26, Tryd.ntmps26
  go_wp2
  go_loopw [1, 5] (fun m i wr => ∃ k q : Nat, k ≤ P.length ∧ i = .int .i64 k ∧ m = .int .i64 (q : Int) ∧ Hid (q = k0 + k) ∧ Hid (OwnX B (.slice o P.length cap) (marksR k0 k ++ P.drop k) wr) ∧ Hid (w.grownBy wr (Value.slice o P.length cap).ownBlock)) (fun _ i _ => P.length - (Lib.intOf i).toNat)
  case atStart => exact ⟨0, k0, Nat.zero_le _, rfl, rfl, rfl, H, ⟨rfl, rfl, rfl, Nat.le_refl _, fun _ _ _ => rfl⟩⟩
  case round =>
    clear H
    obtain ⟨k, q, hk, rfl, rfl, hq, hown, hg⟩ := hrel
    have hqb : q ≤ 1000900000 := by have := hq.out; omega
    have hq0 : 0 < q := by have := hq.out; omega
    by_cases hlt : k < P.length
    · have hlen : (marksR k0 k ++ P.drop k).length = P.length := by simp [marksR_len]; omega
      have hset := mkHid (marksR_set k0 P k hlt)
      rw [show k0 + k = q by have := hq.out; omega] at hset
      have cT := mkHid (markText q wr hq0 (by omega))
      generalize marksR k0 k ++ P.drop k = cur at *
      go_wp2_with fail
      refine cT.out.mono ?_
      rintro e w1 ⟨rfl, hb⟩
      have hown' := hown.out.below hb
      unfold OwnX at hown'
      rw [hlen] at hown'
      rcases hown'.2 with ⟨h1, h0⟩ | ⟨g, cap', cr, h1, hB, -⟩
      · omega
      · simp only [Value.slice.injEq] at h1
        obtain ⟨rfl, -, rfl⟩ := h1
        have hcl : k < (strCellsX cur).length := by simp [strCellsX]; omega
        have d0 : w1.cell? ⟨g, k, none⟩ = some ((strCellsX cur)[k]) := by rw [World.ownsRow.cellAt hown' k (by omega)]; exact List.getElem?_eq_getElem hcl
        have z0 := World.ownsRow.frozenAt hown' k
        have hst := World.ownsRow.stored hown' k (.string (markR q))
        have hn : Hid (OwnX B (.slice (some ⟨g, 0, none⟩) P.length cap) (marksR k0 (k + 1) ++ P.drop (k + 1)) (w1.setCell ⟨g, k, none⟩ (.string (markR q)))) := by
          rw [← hset.out]
          show World.ownsRow _ _ _ _ _ _ _
          rw [List.length_set, hlen, strCellsX, List.map_set]
          exact hst.1
        have hg2 : Hid (w.grownBy (w1.setCell ⟨g, k, none⟩ (.string (markR q))) (Value.slice (some ⟨g, 0, none⟩) P.length cap).ownBlock) := grG_trans (grG_trans hg.out (grownBelowR hb)) hst.2
        have hadd := add_off g k
        generalize (strCellsX cur)[k] = y0 at d0
        unfold markR at hn hg2
        clear hown' hst hset hown hg hcl cT hb hlen hB
        go_wp2
        go_roundw
        case rel => exact ⟨k + 1, q + 1, by omega, by go_num, by go_num, by show _ = _; have := hq.out; omega, hn, hg2⟩
        case measure => simp [Lib.intOf]; omega
    · have hkl : Hid (k = P.length) := Nat.le_antisymm hk (by omega)
      have hn : Hid (OwnX B (.slice o P.length cap) (marksR k0 P.length) wr) := by
        have := hown.out
        rw [hkl.out, List.drop_length, List.append_nil] at this
        exact this
      clear hown
      go_wp2
      go_ret
      exact ⟨by rw [hq.out, hkl.out]; first | rfl | (simp; done), hn, hg⟩
set_option maxRecDepth 20000 in
set_option maxHeartbeats 1000000 in
theorem lawHeldR (o : Option Addr) (n cap lo k0 : Nat) (w : World) (hl : n ≤ 900000) (hk0 : 0 < k0) (hk1 : k0 ≤ 1000000000) (h : TxL lo w.heap.size w o (marksR k0 n)) :
    Calls Tryd.prog 27 #[.slice o n cap, .int .i64 (k0 : Int)] w fun e w' => e = .returned (.int .i64 ((k0 + n : Nat) : Int)) ∧ Below w.heap.size w w' := by
  have H := mkHid h
  clear h
  go_enter Tryd.func27, Tryd.ntmps27
  go_wp2
  go_loopw [1, 5] (fun m i wr => ∃ k q : Nat, k ≤ n ∧ i = .int .i64 k ∧ m = .int .i64 (q : Int) ∧ Hid (q = k0 + k) ∧ Hid (Below w.heap.size w wr)) (fun _ i _ => n - (Lib.intOf i).toNat)
  case atStart => exact ⟨0, k0, Nat.zero_le _, rfl, rfl, rfl, Below.refl _ _⟩
  case round =>
    obtain ⟨k, q, hk, rfl, rfl, hq, hb⟩ := hrel
    have hqb : q ≤ 1000900000 := by have := hq.out; omega
    have hq0 : 0 < q := by have := hq.out; omega
    by_cases hlt : k < n
    · obtain ⟨a, rfl, -, hlta, hc1⟩ := (H.out.below hb.out (Nat.le_refl _)) k (by rw [marksR_len]; exact hlt)
      rw [marksR_get, show k0 + k = q by have := hq.out; omega] at hc1
      have hla : (a.add k).block < wr.heap.size := by rw [add_blockG]; exact Nat.lt_of_lt_of_le hlta hb.out.size
      have Hc := mkHid (fun (w2 : World) (hb2 : Below wr.heap.size wr w2) => (hb2.cell (p := a.add k) hla).trans hc1)
      have hmk := mkHid (fun W => markText q W hq0 (by omega))
      unfold markR at hc1 Hc
      have zq : ∀ x : ByteArray, (x.toList != x.toList) = false := fun x => by simp
      have zq2 := zq ⟨(Pl.mark q).toArray⟩
      generalize (⟨(Pl.mark q).toArray⟩ : ByteArray) = x at *
      have hbr : Below wr.heap.size wr wr := Below.refl _ _
      clear H zq
      go_wp2
      go_region_with (go_at_call 32; (refine (hmk.out _).mono ?_; rintro e w2 ⟨rfl, hb2⟩; have hr2 := Hc.out w2 (((Below.refl wr.heap.size wr).drew).trans hb2)))
      all_goals
        have hbw := mkHid (hb.out.drew.trans (hb2.mono hb.out.size))
        go_wp2
        go_roundw
        case rel => exact ⟨k + 1, q + 1, by omega, by go_num, by go_num, by show _ = _; have := hq.out; omega, hbw⟩
        case measure => simp [Lib.intOf]; omega
    · have hkl : Hid (k = n) := Nat.le_antisymm hk (by omega)
      go_wp2
      go_ret
      exact ⟨by rw [hq.out, hkl.out]; first | rfl | (simp; done), hb.out⟩
/-- The replies with marks from k on. -/
def mkE : Nat → List RpE → List RpE
  | _, [] => []
  | k, e :: r => (⟨(k : Int), marksR (k + 1) e.1.lines.length⟩, e.2) :: mkE (k + 1 + e.1.lines.length) r
def mkF : Nat → List GReply → List GReply
  | _, [] => []
  | k, f :: r => ⟨(k : Int), marksR (k + 1) f.lines.length⟩ :: mkF (k + 1 + f.lines.length) r
def endF : Nat → List GReply → Nat
  | k, [] => k
  | k, f :: r => endF (k + 1 + f.lines.length) r
set_option maxRecDepth 20000 in
theorem mkE_fst : ∀ (E : List RpE) (k : Nat), (mkE k E).map (·.1) = mkF k (E.map (·.1))
  | [], _ => rfl
  | e :: r, k => by rw [mkE, List.map_cons, mkE_fst r, List.map_cons, mkF]
set_option maxRecDepth 20000 in
theorem mkF_len : ∀ (F : List GReply) (k : Nat), (mkF k F).length = F.length
  | [], _ => rfl
  | f :: r, k => by rw [mkF, List.length_cons, mkF_len r, List.length_cons]
set_option maxRecDepth 20000 in
theorem endF_ge : ∀ (F : List GReply) (k : Nat), k ≤ endF k F
  | [], k => Nat.le_refl _
  | f :: r, k => by rw [endF]; have := endF_ge r (k + 1 + f.lines.length); omega
set_option maxHeartbeats 2000000 in
set_option maxRecDepth 20000 in
theorem lawMarkReplyS (o : Option Addr) (E : List RpE) (n cap B : Nat) (w : World) (hn : E.length = n) (hM : endF 1 (E.map (·.1)) ≤ 800000) (h : Rp B (.slice o n cap) E w) (hh : Nat) (hr : ∀ k, (Value.slice o n cap).ownBlock = some k → k < hh) (ho : ∀ e ∈ E, ∀ k, e.2.ownBlock = some k → k < hh) :
    Calls Tryd.prog 18 #[.slice o n cap, .int .i64 1] w fun e w' => e = .returned (.int .i64 ((endF 1 (E.map (·.1)) : Nat) : Int)) ∧ Hid (Rp B (.slice o n cap) (mkE 1 E) w') ∧ Hid (Below B w w') ∧ Hid (∀ k, hh ≤ k → k < w.heap.size → w'.heap[k]? = w.heap[k]?) := by
  obtain ⟨M, hMM⟩ : ∃ M, endF 1 (E.map (·.1)) = M := ⟨_, rfl⟩
  rw [hMM] at hM ⊢
  have HM : Hid (endF 1 ((E.drop 0).map (·.1)) = M) := hMM
  have H := mkHid h
  have Hn := mkHid hn
  have hnM : n ≤ 900000 := by
    have : ∀ (F : List GReply) (k : Nat), k + F.length ≤ endF k F := by
      intro F
      induction F with
      | nil => intro k; exact Nat.le_refl _
      | cons f r ih => intro k; rw [endF, List.length_cons]; have := ih (k + 1 + f.lines.length); omega
    have h1 := this (E.map (·.1)) 1
    rw [hMM, List.length_map, hn] at h1
    omega
  have Hr := mkHid hr
  have Ho := mkHid ho
  clear h hMM hn hr ho
  go_enter Tryd.func18, Tryd.ntmps18
  go_wp2
  go_loopw [1, 5] (fun m iv wr => ∃ (i q : Nat) (D : List RpE), i ≤ n ∧ iv = .int .i64 i ∧ m = .int .i64 (q : Int) ∧ 0 < q ∧ q ≤ 800000 ∧ D.length = i ∧ Hid (D ++ mkE q (E.drop i) = mkE 1 E) ∧ Hid (endF q ((E.drop i).map (·.1)) = M) ∧ Hid (Rp B (.slice o n cap) (D ++ E.drop i) wr) ∧ Hid (Below B w wr) ∧ Hid (∀ k, hh ≤ k → k < w.heap.size → wr.heap[k]? = w.heap[k]?)) (fun _ iv _ => n - (Lib.intOf iv).toNat)
  case atStart => exact ⟨0, 1, [], Nat.zero_le _, rfl, rfl, by omega, by omega, rfl, rfl, HM, H, Below.refl _ _, fun _ _ _ => rfl⟩
  case round =>
    clear H HM
    obtain ⟨i, q, D, hi, rfl, rfl, hq0, hqb, hDl, hD, hE, hRp, hB, hU⟩ := hrel
    by_cases hlt : i < n
    · have hiE : i < E.length := by rw [Hn.out]; exact hlt
      have hXn : (D ++ E.drop i).length = n := by rw [List.length_append, List.length_drop, hDl, Hn.out]; omega
      have hiX : i < (D ++ E.drop i).length := by omega
      have hXi : (D ++ E.drop i)[i] = E[i] := by
        rw [List.getElem_append_right (by omega)]
        simp [hDl]
      have hset : ∀ e : RpE, (D ++ E.drop i).set i e = (D ++ [e]) ++ E.drop (i + 1) := fun e => by
        rw [List.set_append, if_neg (by omega), hDl, Nat.sub_self, List.drop_eq_getElem_cons hiE, List.set_cons_zero]
        simp
      have hD2 := hD.out
      have hE2 := hE.out
      rw [List.drop_eq_getElem_cons hiE, mkE] at hD2
      rw [List.drop_eq_getElem_cons hiE, List.map_cons, endF] at hE2
      have hRp1 := hRp.out
      rw [← hXn] at hRp1
      obtain ⟨g, hg⟩ : ∃ g, o = some ⟨g, 0, none⟩ := by
        rcases hRp1.row.2 with ⟨h1, h0⟩ | ⟨g, cap', cur, h1, -⟩
        · omega
        · simp only [Value.slice.injEq] at h1
          exact ⟨g, h1.1⟩
      subst hg
      have hgB : B ≤ g := (World.ownsRow.lt hRp1.row g rfl).1
      have hrc := rpCells_at _ i hiX
      rw [hXi] at hrc
      have d0 := World.ownsRow.cellAt hRp1.row (i * 2) (by omega)
      have d1 := World.ownsRow.cellAt hRp1.row (i * 2 + 1) (by omega)
      have z0 := World.ownsRow.frozenAt hRp1.row (i * 2)
      rw [hrc.1] at d0
      rw [hrc.2] at d1
      obtain ⟨hc1, hcg⟩ := hRp1.coded i hiX (q : Int)
      rw [hXi] at hc1
      have hown := hc1.own i (by simp; omega)
      simp only [List.getElem_set_self] at hown
      obtain ⟨P, hP⟩ : ∃ P, E[i].1.lines = P := ⟨_, rfl⟩
      rw [hP] at hown hc1 hD2 hE2
      obtain ⟨lo_, lc, hlv⟩ := hown.shape
      have hqe : q + 1 + P.length ≤ 800000 := by
        have := endF_ge ((E.drop (i + 1)).map (·.1)) (q + 1 + P.length)
        rw [hE2] at this
        omega
      rw [hlv] at hown d1
      have hW1 : Hid (Below B w (wr.setCell ⟨g, i * 2, none⟩ (.int .i64 (q : Int)))) := hB.out.setCell (p := ⟨g, i * 2, none⟩) hgB _
      have cM := mkHid (lawMarkR lo_ P lc B (q + 1) _ (by omega) (by omega) (by omega) hown)
      have HC1 := mkHid hc1
      have HLV := mkHid hlv
      have HSET := mkHid hset
      have hd1' : (wr.setCell ⟨g, i * 2, none⟩ (.int .i64 (q : Int))).cell? ⟨g, i * 2 + 1, none⟩ = some (.slice lo_ P.length lc) := by
        have hrow1 := hc1.row
        rw [List.length_set] at hrow1
        have := World.ownsRow.cellAt hrow1 (i * 2 + 1) (by omega)
        rw [(rpCells_at _ i (by simp; omega)).2] at this
        simp only [List.getElem_set_self] at this
        rw [this, hlv]
      have HD2 := mkHid hD2
      have HE2 := mkHid hE2
      have HXN := mkHid hXn
      have hgh : g < hh := Hr.out g rfl
      have hU1 : Hid (∀ k, hh ≤ k → k < w.heap.size → (wr.setCell ⟨g, i * 2, none⟩ (.int .i64 (q : Int))).heap[k]? = w.heap[k]?) := fun k h1 h2 => (hcg.block k (Nat.lt_of_lt_of_le h2 hB.out.size) (by intro e; cases e; omega)).trans (hU.out k h1 h2)
      have hlh : Hid (∀ k, (Value.slice lo_ P.length lc).ownBlock = some k → k < hh) := fun k hk => Ho.out E[i] (List.getElem_mem hiE) k (by rw [hlv]; exact hk)
      have hws : w.heap.size ≤ (wr.setCell ⟨g, i * 2, none⟩ (.int .i64 (q : Int))).heap.size := hW1.out.size
      have hadd := add_off g (i * 2)
      clear hrc hRp1 hc1 hown hlv hset hD hE hRp hB hcg hXi hP hD2 hE2 hXn hiX
      go_wp2_with (go_at_call 26; fail)
      refine cM.out.mono ?_
      rintro e w2 ⟨rfl, hx2, hg2⟩
      have hturn := HC1.out.turn i (by simp; have := HXN.out; omega) (marksR (q + 1) P.length) (by
        simp only [List.getElem_set_self]
        rw [HLV.out]
        exact hx2.out) (by
        simp only [List.getElem_set_self]
        rw [HLV.out]
        exact hg2.out)
      simp only [List.getElem_set_self, List.set_set] at hturn
      rw [HSET.out, HXN.out] at hturn
      have hRp2 := mkHid hturn
      have hB2 : Hid (Below B w w2) := hW1.out.grown hg2.out (by have := (World.ownsRow.lt HC1.out.row g rfl).2; omega) (fun k hk => by
        have h1 := HC1.out.own i (by simp; have := HXN.out; omega)
        simp only [List.getElem_set_self] at h1
        rw [HLV.out] at h1
        exact (World.ownsRow.lt h1 k hk).1)
      have hU2 : Hid (∀ k, hh ≤ k → k < w.heap.size → w2.heap[k]? = w.heap[k]?) := fun k h1 h2 => (hg2.out.block k (Nat.lt_of_lt_of_le h2 hws) (fun e => by have := hlh.out k e.symm; omega)).trans (hU1.out k h1 h2)
      clear hturn hx2 hg2 cM HC1 HLV HSET hW1 hd1' d0 d1 z0 hU1 hlh hws
      go_wp2
      go_roundw
      case rel => exact ⟨i + 1, q + 1 + P.length, _, by omega, by go_num, by go_num, by omega, hqe, by simp; omega, by rw [← HD2.out]; show _ = _; simp, HE2, hRp2, hB2, hU2⟩
      case measure => simp [Lib.intOf]; omega
    · have hd : E.drop i = [] := List.drop_eq_nil_of_le (by rw [Hn.out]; omega)
      have hD1 := hD.out
      have hE1 := hE.out
      have hR1 := hRp.out
      rw [hd] at hD1 hE1 hR1
      simp only [mkE, List.append_nil, List.map_nil, endF] at hD1 hE1 hR1
      rw [hD1] at hR1
      have HE1 := mkHid hE1
      have HR1 := mkHid hR1
      clear hD hE hRp hd hD1 hE1 hR1
      go_wp2
      go_ret
      exact ⟨by have := HE1.out; subst this; rfl, HR1, hB, hU⟩
set_option maxHeartbeats 2000000 in
set_option maxRecDepth 20000 in
theorem lawHeldReplyS (o : Option Addr) (F : List GReply) (n cap lo : Nat) (w : World) (hn : F.length = n) (hM : endF 1 F ≤ 800000) (h : GReplysL lo w.heap.size w o (mkF 1 F)) :
    Calls Tryd.prog 19 #[.slice o n cap, .int .i64 1] w fun e w' => e = .returned (.int .i64 ((endF 1 F : Nat) : Int)) ∧ Below w.heap.size w w' := by
  obtain ⟨M, hMM⟩ : ∃ M, endF 1 F = M := ⟨_, rfl⟩
  rw [hMM] at hM ⊢
  have HM : Hid (endF 1 (F.drop 0) = M) := hMM
  have H := mkHid h
  have Hn := mkHid hn
  have hnM : n ≤ 900000 := by
    have : ∀ (F : List GReply) (k : Nat), k + F.length ≤ endF k F := by
      intro F
      induction F with
      | nil => intro k; exact Nat.le_refl _
      | cons f r ih => intro k; rw [endF, List.length_cons]; have := ih (k + 1 + f.lines.length); omega
    have h1 := this F 1
    rw [hMM, hn] at h1
    omega
  clear h hMM hn
  go_enter Tryd.func19, Tryd.ntmps19
  go_wp2
  go_loopw [1, 5] (fun m iv wr => ∃ (i q : Nat), i ≤ n ∧ iv = .int .i64 i ∧ m = .int .i64 (q : Int) ∧ 0 < q ∧ q ≤ 800000 ∧ Hid ((mkF 1 F).drop i = mkF q (F.drop i)) ∧ Hid (endF q (F.drop i) = M) ∧ Hid (Below w.heap.size w wr)) (fun _ iv _ => n - (Lib.intOf iv).toNat)
  case atStart => exact ⟨0, 1, Nat.zero_le _, rfl, rfl, by omega, by omega, rfl, HM, Below.refl _ _⟩
  case round =>
    clear HM
    obtain ⟨i, q, hi, rfl, rfl, hq0, hqb, hD, hE, hB⟩ := hrel
    by_cases hlt : i < n
    · have hiF : i < F.length := by rw [Hn.out]; exact hlt
      have hiM : i < (mkF 1 F).length := by rw [mkF_len]; exact hiF
      have hD2 := hD.out
      have hE2 := hE.out
      rw [List.drop_eq_getElem_cons hiF, mkF, List.drop_eq_getElem_cons hiM] at hD2
      rw [List.drop_eq_getElem_cons hiF, endF] at hE2
      obtain ⟨hD3, hD4⟩ := List.cons_eq_cons.1 hD2
      obtain ⟨a, v1, rfl, ha0, ha, hA0, hIn0⟩ := H.out i hiM
      have hA := hA0.same (Same.of_below (lo := lo) hB.out (Nat.le_refl _)) (by rw [add_blockG]; exact ha0) (by rw [add_blockG]; exact ha)
      rw [hD3] at hA hIn0
      obtain ⟨⟨a1, c1, hv1, T1⟩⟩ := hIn0
      obtain ⟨P, hP⟩ : ∃ P, F[i].lines.length = P := ⟨_, rfl⟩
      rw [hP] at hA T1 hv1 hE2 hD4
      simp only [marksR_len] at hv1
      subst hv1
      have d0 := hA.c0
      have d1 := hA.c1
      have hqe : q + 1 + P ≤ 800000 := by
        have := endF_ge (F.drop (i + 1)) (q + 1 + P)
        rw [hE2] at this
        omega
      have u0 : ((q : Int) != (q : Int)) = false := by simp
      have cH := mkHid (lawHeldR a1 P c1 lo (q + 1) wr (by omega) (by omega) (by omega) ((T1.below hB.out (Nat.le_refl _)).mono (Nat.le_refl _) hB.out.size))
      have HE2 := mkHid hE2
      have HD4 := mkHid hD4
      clear hA hA0 T1 hD hE hD2 hD3 hE2 hD4 hP
      go_wp2_with (go_at_call 27; fail)
      refine cH.out.mono ?_
      rintro e w2 ⟨rfl, hb2⟩
      have hB2 := mkHid (hB.out.trans (hb2.mono hB.out.size))
      have u1 : decide (((q + 1 + P : Nat) : Int) < 0) = false := decide_eq_false (by omega)
      clear cH hb2 d0 d1
      go_wp2
      go_roundw
      case rel => exact ⟨i + 1, q + 1 + P, by omega, by go_num, by go_num, by omega, hqe, HD4, HE2, hB2⟩
      case measure => simp [Lib.intOf]; omega
    · have hd : F.drop i = [] := List.drop_eq_nil_of_le (by rw [Hn.out]; omega)
      have hE1 := hE.out
      rw [hd] at hE1
      simp only [endF] at hE1
      have HE1 := mkHid hE1
      clear hD hE hd hE1
      go_wp2
      go_ret
      exact ⟨by have := HE1.out; subst this; rfl, hB.out⟩
set_option maxRecDepth 20000 in
theorem mkE_snd : ∀ (E : List RpE) (k : Nat), (mkE k E).length = E.length
  | [], _ => rfl
  | e :: r, k => by rw [mkE, List.length_cons, mkE_snd r, List.length_cons]
set_option maxRecDepth 20000 in
set_option maxHeartbeats 1000000 in
theorem lawMarkReplyList (bb : Bool) (o : Option Addr) (E : List RpE) (n cap B : Nat) (w : World) (hn : E.length = n) (hM : endF 1 (E.map (·.1)) ≤ 800000) (h : Rp B (.slice o n cap) E w) (hB : B ≤ w.heap.size) (hh : Nat) (hr : ∀ k, (Value.slice o n cap).ownBlock = some k → k < hh) (ho : ∀ e ∈ E, ∀ k, e.2.ownBlock = some k → k < hh) :
    Calls Tryd.prog 7 #[.agg #[.bool bb, .slice o n cap], .int .i64 1] w fun e w' => e = .returned (.int .i64 ((endF 1 (E.map (·.1)) : Nat) : Int)) ∧ Hid (Rp B (.slice o n cap) (mkE 1 E) w') ∧ Hid (Below B w w') ∧ Hid (∀ k, hh ≤ k → k < w.heap.size → w'.heap[k]? = w.heap[k]?) := by
  obtain ⟨W0, hW⟩ : ∃ W, W = w.alloc (.cells #[.bool bb, .slice o n cap] 24) := ⟨_, rfl⟩
  have hb0 : Below w.heap.size w W0 := by rw [hW]; exact (Below.refl _ _).alloc (Nat.le_refl _) _
  have hA0 : W0.heap[w.heap.size]? = some (.cells #[.bool bb, .slice o n cap] 24 (0, 0)) := by rw [hW]; exact heap_alloc_at _ _
  have a1 : W0.cell? ⟨w.heap.size, 1, none⟩ = some (.slice o n cap) := by simp [World.cell?, hA0]
  have HW := mkHid hW
  have H1 := mkHid (lawMarkReplyS o E n cap B W0 hn hM (h.below hb0) hh hr ho)
  have Hb0 := mkHid hb0
  clear hW hA0 h hb0 hr ho hM
  generalize endF 1 (E.map (·.1)) = M at *
  go_enter Tryd.func7, Tryd.ntmps7
  go_wp2_with (first | (rw [← HW.out]; clear HW) | fail)
  refine H1.out.mono ?_
  rintro e W1 ⟨rfl, h1, h2, h3⟩
  have hF : Hid (Below B w W1) := (Hb0.out.mono hB).trans h2.out
  have hG : Hid (∀ k, hh ≤ k → k < w.heap.size → W1.heap[k]? = w.heap[k]?) := fun k hk1 hk2 => (h3.out k hk1 (Nat.lt_of_lt_of_le hk2 Hb0.out.size)).trans (Hb0.out.block k hk2)
  clear H1 h2 h3 Hb0 a1
  go_wp2
  go_ret
  exact ⟨rfl, h1, hF, hG⟩
set_option maxRecDepth 20000 in
set_option maxHeartbeats 1000000 in
theorem lawHeldReplyList (bb : Bool) (o : Option Addr) (F : List GReply) (n cap lo : Nat) (w : World) (hn : F.length = n) (hM : endF 1 F ≤ 800000) (h : GReplysL lo w.heap.size w o (mkF 1 F)) :
    Calls Tryd.prog 8 #[.agg #[.bool bb, .slice o n cap], .int .i64 1] w fun e w' => e = .returned (.int .i64 ((endF 1 F : Nat) : Int)) ∧ Below w.heap.size w w' := by
  obtain ⟨W0, hW⟩ : ∃ W, W = w.alloc (.cells #[.bool bb, .slice o n cap] 24) := ⟨_, rfl⟩
  have hb0 : Below w.heap.size w W0 := by rw [hW]; exact (Below.refl _ _).alloc (Nat.le_refl _) _
  have hA0 : W0.heap[w.heap.size]? = some (.cells #[.bool bb, .slice o n cap] 24 (0, 0)) := by rw [hW]; exact heap_alloc_at _ _
  have a1 : W0.cell? ⟨w.heap.size, 1, none⟩ = some (.slice o n cap) := by simp [World.cell?, hA0]
  have HW := mkHid hW
  have H1 := mkHid (lawHeldReplyS o F n cap lo W0 hn hM ((h.below hb0 (Nat.le_refl _)).mono (Nat.le_refl _) hb0.size))
  have Hb0 := mkHid hb0
  have u1 : decide (((endF 1 F : Nat) : Int) < 0) = false := decide_eq_false (by omega)
  clear hW hA0 h hb0 hM
  generalize endF 1 F = M at *
  go_enter Tryd.func8, Tryd.ntmps8
  go_wp2_with (first | (rw [← HW.out]; clear HW) | fail)
  refine H1.out.mono ?_
  rintro e W1 ⟨rfl, h1⟩
  have hF : Hid (Below w.heap.size w W1) := Hb0.out.trans (h1.mono Hb0.out.size)
  clear H1 h1 Hb0 a1
  go_wp2
  go_ret
  exact ⟨rfl, hF.out⟩
end Go.Proofs.YtmclnkcpflehdaaDoor
