
/- The law on Expand. -/
import Derived.Test.YtfkjbamjppnohaaDoorExMarks
import Derived.Test.YtfkjbamjppnohaaDoorExSpec5
namespace Go.Proofs.YtfkjbamjppnohaaDoor
open Go.RowKit Go.Lib Go.Maps
set_option maxRecDepth 20000 in
theorem OwnX.stay {B : Nat} {v : Value} {P : List ByteArray} {w w' : World} (h : OwnX B v P w) (hk : ∀ k, v.ownBlock = some k → w'.heap[k]? = w.heap[k]?) : OwnX B v P w' := by
  refine ⟨h.1, ?_⟩
  rcases h.2 with hn | ⟨g, cap, cur, rfl, hb, hgg, rest⟩
  · exact .inl hn
  · exact .inr ⟨g, cap, cur, rfl, hb, (hk g rfl).trans hgg, rest⟩
set_option maxRecDepth 20000 in
theorem OwnX.stayB {B : Nat} {v : Value} {P : List ByteArray} {w w' : World} (h : OwnX B v P w) (hk : ∀ k, B ≤ k → k < w.heap.size → w'.heap[k]? = w.heap[k]?) : OwnX B v P w' :=
  h.stay fun k e => hk k (World.ownsRow.lt h k e).1 (World.ownsRow.lt h k e).2
set_option maxRecDepth 20000 in
theorem OwnX.tx0 {B : Nat} {o : Option Addr} {cap n : Nat} {P : List ByteArray} {w : World} (h : OwnX B (.slice o n cap) P w) (hn : n = P.length) : TxL 0 w.heap.size w o P := by
  subst hn
  exact h.txL.mono (Nat.zero_le _) (Nat.le_refl _)
set_option maxRecDepth 20000 in
theorem TxL.keepW {lo hi : Nat} {w w' : World} {o : Option Addr} {F : List ByteArray} (h : TxL lo hi w o F) (hb : Below hi w w') (hs : hi ≤ w'.heap.size) : TxL lo w'.heap.size w' o F := (h.below hb (Nat.le_refl _)).mono (Nat.le_refl _) hs
set_option maxHeartbeats 8000000 in
set_option maxRecDepth 20000 in
theorem walkExpand (o : Option Addr) (F : List GAlias) (cap : Nat) (k : ByteArray) (mx : Int) (w : World) (hm : w.cell? ⟨0, 0, none⟩ = some (.int .i64 mx)) (hI : GAliassL 0 w.heap.size w o F) (hlF : F.length ≤ maxLen) (hfF : ∀ f ∈ F, f.fits maxLen) (hk0 : k.size ≤ maxLen) :
    Calls Tryd.prog 3 #[.slice o F.length cap, .string k] w fun e w' => e = .returned (.bool true) ∧ Below w.heap.size w w' := by
  have hm0 := bcell_lt hm
  have Hm := mkHid hm
  have HI := mkHid hI
  have hS := mkHid (lawSzSAlias o F cap 1048576 0 w hI hlF hfF (Nat.le_refl _))
  clear hm hI hfF
  unfold maxLen at hk0 hlF
  by_cases hk2 : 1048576 < k.size
  · clear hS
    go_enter Tryd.func3, Tryd.ntmps3
    go_wp2
    go_ret
    exact ⟨rfl, Below.refl _ _⟩
  replace hk2 : k.size ≤ 1048576 := by omega
  go_enter Tryd.func3, Tryd.ntmps3
  go_wp2_with fail
  refine hS.out.mono ?_
  rintro e w1 ⟨r, rfl, hr, hb1⟩
  have B1 := mkHid hb1
  clear hS hb1
  rcases hr.out with rfl | ⟨m, rfl, _hm, hf1, hf2⟩
  · clear hr
    go_wp2
    go_ret
    exact ⟨rfl, B1.out⟩
  clear hr
  have hf := mkHid hf2
  clear hf2
  have cSp : Hid (∀ (o : Option Addr) (cap lo : Nat) (w : World), GAliassL lo w.heap.size w o F → Calls Tryd.prog 5 #[.slice o F.length cap, .string k] w fun e w' => Hid (∃ (oo : Option Addr) (cc : Nat), e = .returned (.agg #[.int .i64 (Ex.ans F k).1, .slice oo (Ex.ans F k).2.length cc]) ∧ (Ex.ans F k).2.length ≤ 200 ∧ OwnX w.heap.size (.slice oo (Ex.ans F k).2.length cc) (Ex.ans F k).2 w' ∧ Below w.heap.size w w')) := fun o cap lo w h => specExpand o F cap lo k w h hf1 hf.out hk2
  have cIm : Hid (∀ (o : Option Addr) (cap lo : Nat) (w : World), GAliassL lo w.heap.size w o F → w.cell? ⟨0, 0, none⟩ = some (.int .i64 mx) → Calls Tryd.prog 7 #[.slice o F.length cap, .string k] w fun e w' => Hid (∃ (oo : Option Addr) (cc : Nat), e = .returned (.agg #[.int .i64 (Ex.ans F k).1, .slice oo (Ex.ans F k).2.length cc]) ∧ (Ex.ans F k).2.length ≤ 200 ∧ OwnX w.heap.size (.slice oo (Ex.ans F k).2.length cc) (Ex.ans F k).2 w' ∧ Below w.heap.size w w')) := fun o cap lo w h hm => implExpand o F cap lo k mx w h hf1 hf.out hk2 hm
  generalize Ex.ans F k = R at *
  obtain ⟨C, P⟩ := R
  simp only at cSp cIm
  have cT := mkHid (lawToSAlias o F cap 0 w1 ((HI.out.below B1.out (Nat.le_refl _)).mono (Nat.le_refl _) B1.out.size) hf1 hf.out)
  go_wp2_with fail
  refine cT.out.mono ?_
  rintro e w2 ⟨rfl, n2, hb2⟩
  have B2 := mkHid (B1.out.trans (hb2.mono B1.out.size))
  have cS := mkHid (cSp.out _ F.length _ w2 n2.out)
  clear cT hb2 n2
  go_wp2_with fail
  refine cS.out.mono ?_
  rintro e w3 hx
  obtain ⟨p1, l1, rfl, hPl, hT, hb3⟩ := hx.out
  obtain ⟨W3, hW3⟩ : ∃ W3, W3 = w3.alloc (.cells #[.int .i64 C, .slice p1 P.length l1] 26) := ⟨_, rfl⟩
  have bW3 : Below w3.heap.size w3 W3 := by rw [hW3]; exact (Below.refl _ _).alloc (Nat.le_refl _) _
  have s3 : w3.heap.size < W3.heap.size := by rw [hW3]; simp
  have Z0 : Hid (W3.heap[w3.heap.size]? = some (.cells #[.int .i64 C, .slice p1 P.length l1] 26 (0, 0))) := by rw [hW3]; exact heap_alloc_at _ _
  have B3 := mkHid ((B2.out.trans (hb3.mono B2.out.size)).trans (bW3.mono (Nat.le_trans B2.out.size hb3.size)))
  have I1 : Hid (TxL 0 W3.heap.size W3 p1 P) := (hT.tx0 rfl).keepW bW3 bW3.size
  have s03 : w.heap.size ≤ W3.heap.size := B3.out.size
  have HW3 := mkHid hW3
  clear cS cSp hx hT hb3 bW3 hW3 B1 B2
  have cT := mkHid (lawToSXAlias o F cap 0 W3 ((HI.out.below B3.out (Nat.le_refl _)).mono (Nat.le_refl _) B3.out.size) hf1 hf.out)
  go_wp2_with (first | (go_at_call 6; fail))
  rw [← HW3.out]
  clear HW3
  generalize hP0 : w3.heap.size = P0 at *
  refine cT.out.mono ?_
  rintro e w4 ⟨rfl, n4, hb4, hsf⟩
  have s4 : W3.heap.size ≤ w4.heap.size := hb4.size
  have B4 := mkHid hb4
  have BW4 := mkHid (B3.out.trans (hb4.mono s03))
  have T4 : Hid (Thaw W3.heap.size w4.heap.size w4) := Soft.thaw hsf.out
  have cI := mkHid (cIm.out (some ⟨W3.heap.size, 0, none⟩) F.length W3.heap.size w4 n4.out ((BW4.out.cell (p := ⟨0, 0, none⟩) hm0).trans Hm.out))
  clear cT hb4 hsf
  go_wp2_with fail
  refine cI.out.mono ?_
  rintro e w5 hx
  obtain ⟨q1, m1, rfl, -, hT, hb5⟩ := hx.out
  obtain ⟨W5, hW5⟩ : ∃ W5, W5 = w5.alloc (.cells #[.int .i64 C, .slice q1 P.length m1] 26) := ⟨_, rfl⟩
  have bW5 : Below w5.heap.size w5 W5 := by rw [hW5]; exact (Below.refl _ _).alloc (Nat.le_refl _) _
  have s5 : w5.heap.size < W5.heap.size := by rw [hW5]; simp
  have s5a : w4.heap.size ≤ w5.heap.size := hb5.size
  have Y0 : Hid (W5.heap[w5.heap.size]? = some (.cells #[.int .i64 C, .slice q1 P.length m1] 26 (0, 0))) := by rw [hW5]; exact heap_alloc_at _ _
  have BV5 := mkHid (hb5.trans (bW5.mono s5a))
  have B5 := mkHid (B4.out.trans (BV5.out.mono s4))
  have T5 := mkHid (hT.stayB (w' := W5) fun k _ hk => bW5.block k hk)
  have Hn1 : Hid (∀ k, (Value.slice q1 P.length m1).ownBlock = some k → k < w5.heap.size) := fun k e => (World.ownsRow.lt hT k e).2
  have Z5 := mkHid ((B5.out.block P0 (by omega)).trans Z0.out)
  have cE := mkHid (lawEqExpanded C q1 p1 P m1 l1 0 0 W5 (T5.out.tx0 rfl) (I1.out.keepW B5.out B5.out.size) (by omega))
  have HW5 := mkHid hW5
  clear cI hx hT hb5 bW5 hW5
  go_wp2_with (first | (rw [← HW5.out]; clear HW5; generalize hS0 : w5.heap.size = S0 at *; refine wpL_load_row rfl 26 _ rfl S0 _ 26 (0, 0) _ rfl Y0.out Tryd.underlying26 rfl (by kernel_rfl) ?_) | (refine wpL_load_row rfl 26 _ rfl P0 _ 26 (0, 0) _ rfl Z5.out Tryd.underlying26 rfl (by kernel_rfl) ?_) | (go_at_call 8; fail))
  refine cE.out.mono ?_
  rintro e w6 ⟨rfl, hb6⟩
  have B6 := mkHid (B5.out.trans (hb6.mono B5.out.size))
  have BV6 := mkHid (BV5.out.trans (hb6.mono BV5.out.size))
  have BW6 := mkHid (B3.out.trans (B6.out.mono s03))
  have T6 := mkHid (T5.out.stayB (w' := w6) fun k _ hk => hb6.block k hk)
  have Y6 := mkHid ((hb6.block S0 (by omega)).trans Y0.out)
  have s6 : W5.heap.size ≤ w6.heap.size := hb6.size
  have cT := mkHid (lawToSAlias o F cap 0 w6 ((HI.out.below BW6.out (Nat.le_refl _)).mono (Nat.le_refl _) BW6.out.size) hf1 hf.out)
  clear cE hb6 Z5 T5 Y0 B5 BV5
  go_wp2_with fail
  refine cT.out.mono ?_
  rintro e w7 ⟨rfl, n7, hb7⟩
  have BV7 := mkHid (BV6.out.trans (hb7.mono BV6.out.size))
  have cE := mkHid (lawEqSAlias (some ⟨W3.heap.size, 0, none⟩) (some ⟨w6.heap.size, 0, none⟩) F F.length F.length _ _ w7 ((n4.out.below BV7.out (Nat.le_refl _)).mono (Nat.le_refl _) BV7.out.size) n7.out hf1 hf.out)
  have s7 : w6.heap.size ≤ w7.heap.size := hb7.size
  have H7 := mkHid hb7
  clear cT n7 hb7
  go_wp2_with fail
  refine cE.out.mono ?_
  rintro e w8 ⟨rfl, hb8⟩
  have b8 := mkHid (H7.out.trans (hb8.mono s7))
  have B8 := mkHid (B6.out.trans (b8.out.mono B6.out.size))
  have BV8 := mkHid (BV6.out.trans (b8.out.mono BV6.out.size))
  have T8 := mkHid (T6.out.stayB (w' := w8) fun k _ hk => b8.out.block k hk)
  have Y8 := mkHid ((b8.out.block S0 (by omega)).trans Y6.out)
  have s8 : w6.heap.size ≤ w8.heap.size := b8.out.size
  have cM := mkHid (wkAliass (some ⟨W3.heap.size, 0, none⟩) F.length F.length 1 W3.heap.size w4.heap.size w8 ((n4.out.below BV8.out (Nat.le_refl _)).weak hf.out) (fun p h1 h2 => (World.frozen?_of_block (BV8.out.block p.block (by omega))).trans (T4.out p h1 h2)) (by omega) hf1 (by decide) (by decide))
  clear cE hb8 H7 b8 T6 Y6 BV6 B6 BV7 BW6 n4 T4 BW4
  go_wp2_with fail
  refine cM.out.mono ?_
  rintro e w9 ⟨k9, rfl, -, hk9⟩
  have B9 : Hid (Below W3.heap.size W3 w9) := ⟨hk9.out.os.trans B8.out.os, hk9.out.tape.trans B8.out.tape, hk9.out.output.trans B8.out.output, Nat.le_trans B8.out.size hk9.out.size, fun k hk => (hk9.out.out k (by omega) (.inl hk)).trans (B8.out.block k hk)⟩
  have T9 := mkHid (T8.out.stayB (w' := w9) fun k h1 h2 => hk9.out.out k h2 (.inr h1))
  have Y9 := mkHid ((hk9.out.out S0 (by omega) (.inr (by omega))).trans Y8.out)
  have Z9 := mkHid ((B9.out.block P0 (by omega)).trans Z0.out)
  have s9 : w8.heap.size ≤ w9.heap.size := hk9.out.size
  have cE := mkHid (lawEqExpanded C q1 p1 P m1 l1 0 0 w9 (T9.out.tx0 rfl) (I1.out.keepW B9.out B9.out.size) (by omega))
  clear cM hk9 T8 Y8 BV8 B8 B4
  obtain ⟨g9a, g9b⟩ := two_cellsX Y9.out
  obtain ⟨h9a, h9b⟩ := two_cellsX Z9.out
  have k9n : decide ((k9 : Int) < 0) = false := decide_eq_false (by omega)
  go_wp2_with (go_at_call 8; fail)
  refine cE.out.mono ?_
  rintro e w10 ⟨rfl, hb10⟩
  have B10 := mkHid (B9.out.trans (hb10.mono B9.out.size))
  have T10 := mkHid (T9.out.stayB (w' := w10) fun k _ hk => hb10.block k hk)
  have Y10 := mkHid ((hb10.block S0 (by omega)).trans Y9.out)
  have s10 : w9.heap.size ≤ w10.heap.size := hb10.size
  have cN := mkHid (lawMarkExpanded C q1 P m1 w4.heap.size w10 T10.out (by omega))
  have hge : Hid (∀ k, (Value.slice q1 P.length m1).ownBlock = some k → w4.heap.size ≤ k) := fun k e => (World.ownsRow.lt T10.out k e).1
  clear cE hb10 T9 Y9 Z9 B9 g9a g9b h9a h9b
  go_wp2_with (first | (refine wpL_load_row rfl 26 _ rfl S0 _ 26 (0, 0) _ rfl Y10.out Tryd.underlying26 rfl (by kernel_rfl) ?_) | (go_at_call 11; fail))
  refine cN.out.mono ?_
  rintro e w11 ⟨rfl, hT11, hg11⟩
  have B11 : Hid (Below W3.heap.size W3 w11) := B10.out.grown hg11.out (by omega) (fun k hk => Nat.le_trans s4 (hge.out k hk))
  have Y11 := mkHid ((hg11.out.block S0 (by omega) (fun e => by have := Hn1.out _ e.symm; omega)).trans Y10.out)
  have s11 : w10.heap.size ≤ w11.heap.size := hg11.out.size
  have M11 : Hid (TxL 0 w11.heap.size w11 q1 (marksX P.length)) := hT11.out.tx0 (marksX_len _).symm
  have cH := mkHid (lawHeldExpanded C q1 P.length m1 0 w11 M11.out (by omega))
  obtain ⟨mm, hmm⟩ : ∃ mm, 1 + P.length = mm := ⟨_, rfl⟩
  have cHl := mkHid (fun (w : World) (h : TxL 0 w.heap.size w q1 (marksX P.length)) => lawHeldExpanded C q1 P.length m1 0 w h (by omega))
  rw [hmm] at cH cHl ⊢
  have u1 : decide ((mm : Int) < 0) = false := decide_eq_false (by omega)
  have u2 : ((mm : Int) != (mm : Int)) = false := by simp
  clear cN T10 Y10 hg11 B10 hT11 hge hmm
  go_wp2_with (first | (refine wpL_load_row rfl 26 _ rfl S0 _ 26 (0, 0) _ rfl Y11.out Tryd.underlying26 rfl (by kernel_rfl) ?_) | (go_at_call 12; fail))
  refine cH.out.mono ?_
  rintro e w12 ⟨rfl, hb12⟩
  have B12 := mkHid (B11.out.trans (hb12.mono B11.out.size))
  have BW12 := mkHid (B3.out.trans (B12.out.mono s03))
  have Y12 := mkHid ((hb12.block S0 (by omega)).trans Y11.out)
  have M12 : Hid (TxL 0 w12.heap.size w12 q1 (marksX P.length)) := M11.out.keepW hb12 hb12.size
  have s12 : w11.heap.size ≤ w12.heap.size := hb12.size
  have cT := mkHid (lawToSAlias o F cap 0 w12 ((HI.out.below BW12.out (Nat.le_refl _)).mono (Nat.le_refl _) BW12.out.size) hf1 hf.out)
  clear cH hb12 Y11 B11 M11
  go_wp2_with fail
  refine cT.out.mono ?_
  rintro e w13 ⟨rfl, n13, hb13⟩
  have B13 := mkHid (B12.out.trans (hb13.mono B12.out.size))
  have BW13 := mkHid (B3.out.trans (B13.out.mono s03))
  have Y13 := mkHid ((hb13.block S0 (by omega)).trans Y12.out)
  have M13 : Hid (TxL 0 w13.heap.size w13 q1 (marksX P.length)) := M12.out.keepW hb13 hb13.size
  have s13 : w12.heap.size ≤ w13.heap.size := hb13.size
  have cI := mkHid (cIm.out _ F.length _ w13 n13.out ((BW13.out.cell (p := ⟨0, 0, none⟩) hm0).trans Hm.out))
  clear cT n13 hb13 Y12 B12 BW12 M12 BW13
  go_wp2_with fail
  refine cI.out.mono ?_
  rintro e w14 hx
  obtain ⟨h1, i1, rfl, -, hTU, hb14⟩ := hx.out
  obtain ⟨W14, hW14⟩ : ∃ W14, W14 = w14.alloc (.cells #[.int .i64 C, .slice h1 P.length i1] 26) := ⟨_, rfl⟩
  have bW14 : Below w14.heap.size w14 W14 := by rw [hW14]; exact (Below.refl _ _).alloc (Nat.le_refl _) _
  have s14 : w13.heap.size ≤ w14.heap.size := hb14.size
  have s14a : w14.heap.size < W14.heap.size := by rw [hW14]; simp
  have U0 : Hid (W14.heap[w14.heap.size]? = some (.cells #[.int .i64 C, .slice h1 P.length i1] 26 (0, 0))) := by rw [hW14]; exact heap_alloc_at _ _
  have bb := hb14.trans (bW14.mono s14)
  have B14 := mkHid (B13.out.trans (bb.mono B13.out.size))
  have M14 : Hid (TxL 0 W14.heap.size W14 q1 (marksX P.length)) := M13.out.keepW bb bb.size
  have Y14 := mkHid ((bb.block S0 (by omega)).trans Y13.out)
  have Z14 := mkHid ((B14.out.block P0 (by omega)).trans Z0.out)
  have cE := mkHid (lawEqExpanded C h1 p1 P i1 l1 0 0 W14 ((hTU.tx0 rfl).keepW bW14 bW14.size) (I1.out.keepW B14.out B14.out.size) (by omega))
  have HW14 := mkHid hW14
  clear cI cIm hx hTU hb14 bW14 hW14 bb B13 M13 Y13
  go_wp2_with (first | (rw [← HW14.out]; clear HW14; generalize hU : w14.heap.size = U at *; refine wpL_load_row rfl 26 _ rfl U _ 26 (0, 0) _ rfl U0.out Tryd.underlying26 rfl (by kernel_rfl) ?_) | (refine wpL_load_row rfl 26 _ rfl P0 _ 26 (0, 0) _ rfl Z14.out Tryd.underlying26 rfl (by kernel_rfl) ?_) | (go_at_call 8; fail))
  refine cE.out.mono ?_
  rintro e w15 ⟨rfl, hb15⟩
  have B15 := mkHid (B14.out.trans (hb15.mono B14.out.size))
  have M15 : Hid (TxL 0 w15.heap.size w15 q1 (marksX P.length)) := M14.out.keepW hb15 hb15.size
  have Y15 := mkHid ((hb15.block S0 (by omega)).trans Y14.out)
  have cH := mkHid (cHl.out w15 M15.out)
  clear cE hb15 M14 Y14 Z14 B14 U0 M15 cHl
  go_wp2_with (first | (refine wpL_load_row rfl 26 _ rfl S0 _ 26 (0, 0) _ rfl Y15.out Tryd.underlying26 rfl (by kernel_rfl) ?_) | (go_at_call 12; fail))
  refine cH.out.mono ?_
  rintro e w16 ⟨rfl, hb16⟩
  have BE := mkHid (B3.out.trans ((B15.out.trans (hb16.mono B15.out.size)).mono s03))
  clear cH Y15 hb16 B15
  go_wp2
  go_ret
  exact ⟨rfl, BE.out⟩
end Go.Proofs.YtfkjbamjppnohaaDoor
