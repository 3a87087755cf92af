
/- WriteWords, the program's side. -/
import Derived.Test.YtbppdfjigcelkaaGreatDoorWordsWord
namespace Go.Proofs.YtbppdfjigcelkaaGreatDoor
open Go.RowKit Go.Lib
set_option maxRecDepth 20000 in
theorem encA4 (ps : List Int) (h : ps.length ≤ 2000) : encA 4 ps = if ps.all Pl.isPt = true then some (Pl.cat ps) else none := by
  unfold encA
  rw [if_neg (by omega), Pl.enc_cat, List.nil_append]
set_option maxRecDepth 20000 in
theorem MaxL.on {w w' : World} (h : MaxL w) (hb : Below w.heap.size w w') : MaxL w' := by
  obtain ⟨m, hm⟩ := h
  exact ⟨m, (hb.cell (World.block_lt_of_cell? _ _ hm)).trans hm⟩
set_option maxRecDepth 20000 in
theorem Own.iterAt {B : Nat} {v : Value} {p : List UInt8} {w : World} (h : Own B v p w) (k : Nat) (hk : k < B) (s : ByteArray) (pos : Nat) : Own B v p (w.iterAt k s pos) := by
  obtain ⟨h1, h2⟩ := h
  refine ⟨h1, ?_⟩
  rcases h2 with h2 | ⟨g, cap, cur, e1, e2, e3, e4⟩
  · exact .inl h2
  · refine .inr ⟨g, cap, cur, e1, e2, ?_, e4⟩
    rw [iterAt_other _ _ _ _ _ (by omega)]
    exact e3
set_option maxRecDepth 20000 in
theorem cell_iterAt (w : World) (k : Nat) (s : ByteArray) (pos : Nat) (a : Addr) (h : a.block ≠ k) : (w.iterAt k s pos).cell? a = w.cell? a := by
  unfold World.cell?
  rw [iterAt_other _ _ _ _ _ h]
set_option maxRecDepth 20000 in
theorem Tab.iterAt {w : World} (h : Tab w) (k : Nat) (hk : 1 < k) (s : ByteArray) (pos : Nat) : Tab (w.iterAt k s pos) := fun j hj => by
  rw [cell_iterAt _ _ _ _ _ (by show 1 ≠ k; omega)]
  exact h j hj
set_option maxRecDepth 20000 in
theorem cat_split (D : ByteArray) (ps : List Int) (z q : List UInt8) (k : Nat) (hk : k < ps.length) (h : D.data.toList = z ++ (q ++ Pl.cat (ps.drop k))) : D.data.toList = (z ++ q) ++ (Pl.form 4 ps[k] ++ Pl.cat (ps.drop (k + 1))) := by
  rw [h, List.drop_eq_getElem_cons hk, Pl.cat_cons]; simp
set_option maxRecDepth 20000 in
theorem ext_mid (D : ByteArray) (z q t : List UInt8) (a b : Nat) (h : D.data.toList = z ++ (q ++ t)) (ha : a = z.length) (hb : b = z.length + q.length) : D.extract a b = ⟨q.toArray⟩ := by
  subst ha hb
  apply ByteArray.ext
  apply Array.toList_inj.1
  rw [Pl.ext_data, h, List.drop_left, Nat.add_sub_cancel_left, List.take_left]
set_option maxRecDepth 10000 in
set_option maxHeartbeats 2000000 in
theorem implWords (o : Option Addr) (ps : List Int) (cap : Nat) (w : World) (hF : PtsAt w.heap.size w o ps) (hlen : ps.length ≤ 2000) (hT : Tab w) (hM : MaxL w) (hz : 1 < w.heap.size) :
    Calls Tryz.prog 10 #[.slice o ps.length cap] w fun e w' => e = .returned (.string ⟨(Pl.words ps).toArray⟩) ∧ Below w.heap.size w w' := by
  obtain ⟨i0, hi, hy0, hy1, hy2⟩ := info_parts Tryz.info5
  obtain ⟨R, hR⟩ : ∃ R, Pl.words ps = R := ⟨_, rfl⟩
  have HR : Hid (Pl.words ps = R) := hR
  rw [hR]
  clear hR
  have hE := implEncode 4 o ps cap w hF (by omega)
  rw [encA4 ps hlen] at hE
  have HT : Hid (Tab w) := hT
  have HM : Hid (MaxL w) := hM
  clear hT hM hF
  by_cases hall : ps.all Pl.isPt = true
  · rw [if_pos hall] at hE
    have Hall : Hid (ps.all Pl.isPt = true) := hall
    have hcl := Pl.cat_len ps
    obtain ⟨D, hD⟩ : ∃ D : ByteArray, D = ⟨(Pl.cat ps).toArray⟩ := ⟨_, rfl⟩
    have hDs : D.size ≤ 8000 := by rw [hD]; show (Pl.cat ps).toArray.size ≤ _; rw [List.size_toArray]; omega
    have HD : Hid (D.data.toList = Pl.cat ps) := by show _ = _; rw [hD]
    have hE2 : Calls Tryz.prog 6 #[.int .i64 4, .slice o ps.length cap] w fun e w' => e = .returned (.agg #[.bool true, .string D]) ∧ Below w.heap.size w w' := by
      rw [hD]; exact hE
    clear hE hall hcl hD
    cases hst : Pl.stands ps
    · go_enter Tryz.func10, Tryz.ntmps10
      go_wp2_with fail
      refine hE2.mono ?_
      rintro e w1 ⟨rfl, hb1⟩
      have hb1a : Below w.heap.size w (w1.alloc (.cells #[.bool true, .string D] 27)) := hb1.alloc hb1.size _
      have hS := implStands D (w1.alloc (.cells #[.bool true, .string D] 27)) (by omega) (HM.out.on hb1a)
      rw [HD.out, Pl.prt_cat ps Hall.out] at hS
      rw [show (ps.all Pl.sim && !contains (Pl.cat ps) [61, 63]) = false from hst] at hS
      have Hst : Hid (Pl.stands ps = false) := hst
      clear hst hE2
      go_wp2_with fail
      refine hS.mono ?_
      rintro e w2 ⟨rfl, rfl⟩
      clear hS
      obtain ⟨V0, hV0⟩ : ∃ V0, V0 = (w1.alloc (.cells #[.bool true, .string D] 27)).iter D 0 := ⟨_, rfl⟩
      have hsz0 : V0.heap.size = w1.heap.size + 2 := by rw [hV0]; simp [World.iter]
      have hbV0 : Below w.heap.size w V0 := by rw [hV0]; exact hb1a.alloc (by have := hb1.size; simp; omega) _
      have hit0 : V0.heap[w1.heap.size + 1]? = some (.stringIter D 0) := by
        rw [hV0]
        have := World.iter_heap (w1.alloc (.cells #[.bool true, .string D] 27)) D 0
        simpa using this
      have hce0 : V0.cell? ⟨w1.heap.size, 1, none⟩ = some (.string D) := by
        rw [hV0]
        have h1 : (w1.alloc (.cells #[.bool true, .string D] 27)).cell? ⟨w1.heap.size, 1, none⟩ = some (.string D) := by simp
        exact (((Below.refl (w1.alloc (.cells #[.bool true, .string D] 27)).heap.size _).alloc (Nat.le_refl _) (.stringIter D 0)).cell (World.block_lt_of_cell? _ _ h1)).trans h1
      have hg0 := hb1.size
      have Hit0 := (show Hid _ from hit0)
      have Hce0 := (show Hid _ from hce0)
      have HR2 : Hid (([] : List UInt8) ++ Pl.ww [] (ps.drop 0) = R) := by
        show _ = _
        rw [← HR.out, Pl.words, if_pos Hall.out, if_neg (by rw [Hst.out]; decide), List.nil_append, List.drop_zero]
        unfold Pl.wq
        rw [if_neg]
        · simp
        · intro e
          have := Hst.out
          rw [e] at this
          exact absurd this (by decide)
      have HD0 : Hid (D.data.toList = ([] : List UInt8) ++ ([] ++ Pl.cat (ps.drop 0))) := by
        show _ = _
        rw [HD.out]; simp
      clear hit0 hce0
      go_wp2
      rw [← hV0]
      clear hV0 hb1a
      generalize w1.heap.size = g at *
      go_loopw [4, 5] (fun v f wr => ∃ (k : Nat) (z q p : List UInt8), k ≤ ps.length ∧ f = .int .i64 (z.length : Nat) ∧ Hid (D.data.toList = z ++ (q ++ Pl.cat (ps.drop k))) ∧ q.length ≤ 45 ∧ p.length ≤ 100 * k ∧ Hid (p ++ Pl.ww q (ps.drop k) = R) ∧ Own (g + 2) v p wr ∧ wr.heap[g + 1]? = some (.stringIter D (z.length + q.length)) ∧ wr.cell? ⟨g, 1, none⟩ = some (.string D) ∧ Below w.heap.size w wr ∧ g + 2 ≤ wr.heap.size) (fun _ _ wr => D.size - wr.iterPos (g + 1))
      case atStart => exact ⟨0, [], [], [], Nat.zero_le _, rfl, HD0, by simp, by simp, HR2, Own.nil _ _, Hit0.out, Hce0.out, hbV0, by omega⟩
      case round =>
        clear HD0 HR2 Hit0 Hce0 hbV0 hsz0
        obtain ⟨k, z, q, p, hk, rfl, hd, hq, hpl, hp, hown, hit, hce, hb, hgs⟩ := hrel
        have hDl : D.size = z.length + q.length + (Pl.cat (ps.drop k)).length := by
          have := congrArg List.length hd.out
          rw [Pl.len_list] at this
          simp at this
          omega
        have hTw := HT.out.on hz hb
        obtain ⟨pos, hpos⟩ : ∃ pos, z.length + q.length = pos := ⟨_, rfl⟩
        obtain ⟨zl, hzl⟩ : ∃ zl, z.length = zl := ⟨_, rfl⟩
        by_cases hlt : k < ps.length
        · have hpt : Pl.isPt ps[k] = true := List.all_eq_true.1 Hall.out _ (List.getElem_mem hlt)
          have hfl := Pl.form_len 4 ps[k]
          have hne := List.length_pos_iff.2 (Pl.form4_ne _ hpt)
          have hsp := cat_split D ps z q k hlt hd.out
          have hdec := Pl.decode_form D (z ++ q) _ ps[k] hpt hsp
          have hrl := Pl.form4_len _ hpt
          have hr := (Pl.isPt_iff _).1 hpt
          rw [List.length_append, hpos] at hdec
          have hposD : pos < D.size := by
            have := congrArg List.length hsp
            rw [Pl.len_list] at this
            simp at this
            omega
          have HF2 := (show Hid _ from fun h => Pl.ww_full2 q ps k hlt h)
          have HM2 := (show Hid _ from fun h => Pl.ww_more q ps k hlt h)
          have Hsp : Hid (D.data.toList = (z ++ q) ++ (Pl.form 4 ps[k] ++ Pl.cat (ps.drop (k + 1)))) := hsp
          have Hex : Hid (D.extract zl pos = ⟨q.toArray⟩) := show _ = _ from ext_mid D z q _ zl pos hd.out hzl.symm (by omega)
          clear hsp hd
          generalize ps[k] = pt at *
          obtain ⟨fl, hfle⟩ : ∃ fl, (Pl.form 4 pt).length = fl := ⟨_, rfl⟩
          have hRL : ∀ w : World, Calls Tryz.prog 25 #[.int .i32 pt] w fun e w' => e = .returned (.int .i64 (fl : Int)) ∧ w' = w := by
            intro w
            have := Tryz.utf8_RuneLen pt w
            rw [← hrl, hfle] at this
            exact this
          rw [hfle] at hdec hfl hne
          have hnext : ∀ ty, (Instr.next (.pointer (some ⟨g + 1, 0, none⟩)) true ty).run Tryz.prog wr = .ok (.tuple #[.bool true, .int .i64 pos, .int .i32 pt]) (wr.iterAt (g + 1) D (pos + fl)) := by
            intro ty
            have := run_next_any_at (P := Tryz.prog) wr (g + 1) D pos ty (by rw [hit, hpos]) hposD
            rw [hdec, show ((pt.toNat : Nat) : Int) = pt from by omega] at this
            exact this
          have hipos : wr.iterPos (g + 1) = pos := iterPos_of (by rw [hit, hpos])
          obtain ⟨V, hV⟩ : ∃ V, V = wr.iterAt (g + 1) D (pos + fl) := ⟨_, rfl⟩
          have hitV : V.heap[g + 1]? = some (.stringIter D (pos + fl)) := by rw [hV]; exact iterAt_heap _ _ _ _ _ hit
          have hceV : V.cell? ⟨g, 1, none⟩ = some (.string D) := by rw [hV, cell_iterAt _ _ _ _ _ (by show g ≠ g + 1; omega)]; exact hce
          have hownV : Own (g + 2) u4 p V := by rw [hV]; exact hown.iterAt _ (by omega) _ _
          have hbV : Below w.heap.size w V := by rw [hV]; exact below_iterAt hb (by omega) _ _
          have hTV : Tab V := HT.out.on hz hbV
          have hgV : g + 2 ≤ V.heap.size := by rw [hV, iterAt_size]; exact hgs
          rw [← hV] at hnext
          have hVs : V.heap.size = wr.heap.size := by rw [hV, iterAt_size]
          clear hV hown hit hce hb hTw hdec hDl hrl hr
          by_cases h45 : 45 < q.length + fl
          · have hM : Hid ((p ++ Pl.word q ++ [32]) ++ Pl.ww (Pl.form 4 pt) (ps.drop (k + 1)) = R) := by
              show _ = _
              rw [← hp.out, HF2.out (by rw [hfle]; exact h45)]
              simp
            have h45i : (45 : Int) < (pos : Int) + (fl : Int) - (zl : Int) := by omega
            have hzp : zl ≤ pos := by omega
            have hpD : pos ≤ D.size := by omega
            have hWd : Calls Tryz.prog 26 #[u4, .string (D.extract zl pos)] V fun e w' => ∃ v', e = .returned v' ∧ Own (g + 2) v' (p ++ Pl.word q) w' ∧ Below (g + 2) V w' := by
              rw [Hex.out]
              exact implWord (g + 2) u4 p q V V hownV hTV (by omega) hgV (Below.refl _ _) (by omega)
            have hwl : (Pl.word q).length ≤ 80 := by
              have := Pb.bare_len 15 q (by omega)
              simp [Pl.word]
              omega
            clear HF2 HM2 hp Hex
            go_wp2_with fail
            refine (hRL _).mono ?_
            rintro e w2 ⟨rfl, rfl⟩
            clear hRL
            go_wp2_with fail
            refine hWd.mono ?_
            rintro e w4 ⟨v4, rfl, hown4, hb4⟩
            clear hWd
            go_wp2_with (at_builtin; go_must (refine wp_app (W := w2) rfl _ _ 22 rfl i0 Tryz.underlying22 hi hy0 hy1 hy2 (g + 2) v4 (p ++ Pl.word q) rfl hown4 _ [32] rfl 1 1 rfl rfl (by rw [List.length_append]; simp; omega) hgV hb4 ?_; intro v5 w5 hown5 hb5))
            go_roundw
            case rel => exact ⟨k + 1, z ++ q, Pl.form 4 pt, _, by omega, (by rw [List.length_append, hpos]), Hsp, by omega, (by simp only [List.length_append, List.length_cons, List.length_nil]; omega), hM, hown5, (by rw [hb5.block _ (by omega), hitV, List.length_append]; congr 2; omega), (hb5.cell (by show g < g + 2; omega)).trans hceV, hbV.trans (hb5.mono (by omega)), by have := hb5.size; omega⟩
            case measure =>
              rw [hipos, iterPos_of ((hb5.block (g + 1) (by omega)).trans hitV)]
              omega
          · have hM : Hid (p ++ Pl.ww (q ++ Pl.form 4 pt) (ps.drop (k + 1)) = R) := by
              show _ = _
              rw [← HM2.out (by rw [hfle]; exact h45)]
              exact hp.out
            have Hsp2 : Hid (D.data.toList = z ++ ((q ++ Pl.form 4 pt) ++ Pl.cat (ps.drop (k + 1)))) := by
              show _ = _
              rw [Hsp.out]; simp
            have h45i : ¬ (45 : Int) < (pos : Int) + (fl : Int) - (zl : Int) := by omega
            clear HF2 HM2 hp Hex Hsp
            go_wp2_with fail
            refine (hRL _).mono ?_
            rintro e w2 ⟨rfl, rfl⟩
            clear hRL
            go_wp2
            go_roundw
            case rel => exact ⟨k + 1, z, q ++ Pl.form 4 pt, p, by omega, (by rw [hzl]), Hsp2, (by rw [List.length_append]; omega), by omega, hM, hownV, (by rw [hitV, List.length_append]; congr 2; omega), hceV, hbV, hgV⟩
            case measure =>
              rw [hipos, iterPos_of hitV]
              omega
        · have hcn : (Pl.cat (ps.drop k)).length = 0 := by rw [List.drop_eq_nil_of_le (by omega)]; rfl
          have hn : ¬ pos < D.size := by omega
          have hnext : ∀ ty, (Instr.next (.pointer (some ⟨g + 1, 0, none⟩)) true ty).run Tryz.prog wr = .ok (.tuple #[.bool false]) wr := fun ty => run_next_end_at (P := Tryz.prog) wr (g + 1) D pos ty (by rw [hit, hpos]) hn
          have hDz : Hid (D.extract zl D.size = ⟨q.toArray⟩) := show _ = _ from ext_mid D z q _ zl D.size hd.out hzl.symm (by omega)
          have hzD : zl ≤ D.size := by omega
          have hM : Hid (p ++ Pl.word q = R) := by
            show _ = _
            rw [← hp.out, Pl.ww_done q ps k (by omega)]
          have hWd : Calls Tryz.prog 26 #[u4, .string (D.extract zl D.size)] wr fun e w' => ∃ v', e = .returned v' ∧ Own (g + 2) v' (p ++ Pl.word q) w' ∧ Below (g + 2) wr w' := by
            rw [hDz.out]
            exact implWord (g + 2) u4 p q wr wr hown hTw (by omega) hgs (Below.refl _ _) (by omega)
          clear hd hp hDz hDl hcn hit
          go_wp2_with fail
          refine hWd.mono ?_
          rintro e w4 ⟨v4, rfl, hown4, hb4⟩
          clear hWd hown
          have hbk := hown4.back (P := Tryz.prog) 22 9 Tryz.underlying22 Tryz.underlying5 Tryz.underlying9
          go_wp2
          go_ret
          exact ⟨by rw [← hM.out]; rfl, hb.trans (hb4.mono (by omega))⟩
    · go_enter Tryz.func10, Tryz.ntmps10
      go_wp2_with fail
      refine hE2.mono ?_
      rintro e w1 ⟨rfl, hb1⟩
      have hb1a : Below w.heap.size w (w1.alloc (.cells #[.bool true, .string D] 27)) := hb1.alloc hb1.size _
      have hS := implStands D (w1.alloc (.cells #[.bool true, .string D] 27)) (by omega) (HM.out.on hb1a)
      rw [HD.out, Pl.prt_cat ps Hall.out] at hS
      rw [show (ps.all Pl.sim && !contains (Pl.cat ps) [61, 63]) = true from hst] at hS
      have Hst : Hid (Pl.stands ps = true) := hst
      clear hst hE2
      go_wp2_with fail
      refine hS.mono ?_
      rintro e w2 ⟨rfl, rfl⟩
      clear hS
      go_wp2
      go_ret
      refine ⟨?_, hb1a⟩
      rw [← HR.out, Pl.words, if_pos Hall.out, if_pos Hst.out, ← HD.out]
      rfl
  · rw [if_neg hall] at hE
    have Hall : Hid (¬ ps.all Pl.isPt = true) := hall
    have hE2 : Calls Tryz.prog 6 #[.int .i64 4, .slice o ps.length cap] w fun e w' => e = .returned (.agg #[.bool false, .string ⟨#[]⟩]) ∧ Below w.heap.size w w' := hE
    clear hE hall
    go_enter Tryz.func10, Tryz.ntmps10
    go_wp2_with fail
    refine hE2.mono ?_
    rintro e w1 ⟨rfl, hb1⟩
    have hb1a : Below w.heap.size w (w1.alloc (.cells #[.bool false, .string ⟨#[]⟩] 27)) := hb1.alloc hb1.size _
    go_wp2
    go_ret
    refine ⟨?_, hb1a⟩
    rw [← HR.out, Pl.words, if_neg Hall.out]
    rfl
end Go.Proofs.YtbppdfjigcelkaaGreatDoor
