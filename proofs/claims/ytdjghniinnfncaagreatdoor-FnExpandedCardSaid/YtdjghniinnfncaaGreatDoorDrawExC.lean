
/- A source of draws: a table of hosts. -/

/- Drawn aliases in memory: their row, and a row of texts for each. -/

/- The draws of HostsOf. -/
import Derived.Test.YtdjghniinnfncaaGreatDoorGenBase
import Derived.Test.YtdjghniinnfncaaGreatDoorHoSpec
import Derived.Test.YtdjghniinnfncaaGreatDoorExStep
import Derived.Test.YtdjghniinnfncaaGreatDoorExPlain
import Derived.Test.YtdjghniinnfncaaGreatDoorAnyVals
import Derived.Maps.AppendAt
namespace Go.Proofs.YtdjghniinnfncaaGreatDoor
open Go.RowKit Go.Lib Go.Maps
set_option maxRecDepth 20000 in
theorem wrap_inX (n : Int) (h0 : -9223372036854775808 ≤ n) (h1 : n ≤ 9223372036854775807) : IntKind.i64.wrap n = n := by
  have e : ∀ m : Int, IntKind.i64.wrap m = (m + 9223372036854775808) % 18446744073709551616 - 9223372036854775808 := fun m => by simp [IntKind.wrap, IntKind.bits, IntKind.signed]; omega
  rw [e]
  omega
set_option maxRecDepth 20000 in
theorem opAppM {w : World} {o : Oper} {a : Act} {K : Act → World → Prop} {Q : Exit → Act → World → Prop} (s x : Operand)
    (ho : o.op = .call { callee := .builtin .append, args := #[s, x], argTypes := #[33, 33] })
    (B : Nat) (v : Value) (C : List GMx) (hs : a.eval s = v) (hown : OwnM B v C w) (R : List GMx) (ad : Addr) (n c : Nat) (hx : a.eval x = .slice (some ad) n c) (hn : n = R.length) (hR : ∀ j u, (mxCells R)[j]? = some u → w.cell? (ad.add j) = some u) (hlen : C.length + R.length ≤ 10000) (hB : B ≤ w.heap.size)
    (h : ∀ v' w', OwnM B v' (C ++ R) w' → w.grownBy w' v.ownBlock → K (a.put o.dst v') w') : o.wp Tryz.prog a w K Q := by
  obtain ⟨i0, hi0, hz0, hz1, hz2⟩ := info_parts Tryz.infoGMx
  subst hn
  unfold OwnM at hown
  obtain ⟨v', w', hr, h2, h3, h4, h5⟩ := run_append_own_at (P := Tryz.prog) w B 33 o.type 58 i0 _ 3 40 Tryz.underlying33 hi0 hz0 hz1 hz2 rfl (by decide) v C.length (mxCells C) hown ad R.length c (mxCells R) (mxCells_len R) hR (mxCells_one R) (by unfold maxLen; omega) (by omega) hB
  unfold Oper.wp execOp
  simp only [ho, resolve, invoke, builtin, Sem.run_bind, Sem.run_pure, Result.andThen_ok, List.map_toArray, List.map_cons, List.map_nil, hs, hx, hr]
  refine h v' w' ?_ h3
  unfold OwnM
  rw [mxCells_join, List.length_append]
  exact h2
def mxFact (u3 : Value) (g B : Nat) (j : Nat) (v : Value) (w : World) : Prop :=
  match j with
  | 0 => v = u3
  | 1 => tabM 9 B 3 v w
  | 2 => v = .pointer (some ⟨g, 0, none⟩)
  | 3 => numM 0 3 v
  | 4 => ptrM 9 B v w
  | 5 => txtM 9 v
  | 6 => v = .pointer (some ⟨g, 0, none⟩)
  | 7 => numM 0 3 v
  | 8 => numM 0 30 v
  | 9 => tabM 11 B 3 v w
  | 10 => v = .pointer (some ⟨g, 0, none⟩)
  | 11 => numM 0 3 v
  | 12 => ptrM 11 B v w
  | 13 => txtM 11 v
  | 14 => ∃ t : GMx, t.fits 20 ∧ v = GMxV t
  | 15 => ∃ (b : Nat) (t : GMx), v = .slice (some ⟨b, 0, none⟩) 1 1 ∧ B ≤ b ∧ w.heap[b]? = some (.cells #[.string t.domain, .int .i64 t.prefer, .string t.host] 58) ∧ t.fits 20
  | _ => True
def mxDst (j : Nat) : Nat :=
  match j with
  | 0 => 12
  | 1 => 13
  | 2 => 14
  | 3 => 15
  | 4 => 16
  | 5 => 17
  | 6 => 18
  | 7 => 19
  | 8 => 20
  | 9 => 21
  | 10 => 22
  | 11 => 23
  | 12 => 24
  | 13 => 25
  | 14 => 26
  | 15 => 27
  | _ => 999
set_option maxRecDepth 20000 in
theorem mxFact.gr {u3 : Value} {g B : Nat} (hB : g < B) (j : Nat) (v : Value) (w w' : World) (h : mxFact u3 g B j v w) (hg : w.grownBy w' (some g)) : mxFact u3 g B j v w' := by
  unfold mxFact at h ⊢
  split
  case h_16 =>
    obtain ⟨b, t, h1, h2, h3, h4⟩ := h
    exact ⟨b, t, h1, h2, by rw [hg.block b (hp_lt h3) (by intro e; have := Option.some.inj e; omega)]; exact h3, h4⟩
  all_goals first
    | exact tabM.gr h hg hB
    | exact ptrM.gr h hg hB
    | exact h
    | trivial
abbrev mxAct (g : Nat) (v2 v3 v4 v5 v6 v7 v8 v9 v10 v11 v28 : Value) (x : Nat → Value) : Act := { tmps := #[.pointer (some ⟨g, 0, none⟩), undef, v2, v3, v4, v5, v6, v7, v8, v9, v10, v11, x 12, x 13, x 14, x 15, x 16, x 17, x 18, x 19, x 20, x 21, x 22, x 23, x 24, x 25, x 26, x 27, v28, undef], defers := [] }
set_option maxRecDepth 20000 in
theorem GoneBy.small {W : World} {g cl cp a0 z k : Nat} {o : Option Addr} {w : World} (h : GoneBy W g o cl cp a0 z k w) : W.heap.size ≤ w.heap.size := h.1.size
set_option maxRecDepth 20000 in
set_option maxHeartbeats 4000000 in
theorem srcMx (g : Nat) (o : Option Addr) (c : List UInt8) (cp a z : Nat) (w : World) (h : Src w g o c.length cp a z) (hc : Code g w o c) (ha : a ≤ 900000) (hl : c.length ≤ 1048576) :
    Calls Tryz.prog 25 #[.pointer (some ⟨g, 0, none⟩)] w fun e w' => ∃ (v : Value) (T : List GMx) (a' : Nat), e = .returned v ∧ T.length ≤ 5 ∧ (∀ t ∈ T, t.fits 20) ∧ OwnM w.heap.size v T w' ∧ a' ≤ a + 200 ∧ Src w' g o c.length cp a' z ∧ w.grownBy w' (some g) := by
  have hgl := h.lt
  have HC : Hid (Code g w o c) := hc
  obtain ⟨W1, hW1⟩ : ∃ W, w.alloc (.cells #[] 58) = W := ⟨_, rfl⟩
  have b1 : Below w.heap.size w W1 := by rw [← hW1]; exact (Below.refl _ _).alloc (Nat.le_refl _) _
  have O1 : OwnM w.heap.size (.slice (some ⟨w.heap.size, 0, none⟩) 0 0) [] W1 := by rw [← hW1]; exact OwnM.fresh w
  have Hs0 : Hid (Src W1 g o c.length cp a z) := h.below b1
  have Hg0 : Hid (w.grownBy W1 (some g)) := gr_below b1
  have HO1 := mkHid O1
  have HW1 := mkHid hW1
  have hN := srcN g o c cp a z 5 W1 Hs0.out (HC.out.grown Hg0.out (Nat.le_refl _)) (by omega) hl (by omega) (by omega)
  clear h hc O1 b1 hW1
  go_enter Tryz.func25, Tryz.ntmps25
  go_wp2_with fail
  rw [HW1.out]
  refine hN.mono ?_
  rintro e w1 ⟨v, rfl, hv, hs1, hg1⟩
  have Hs1 := mkHid hs1
  have Hg1 := mkHid (gr_trans Hg0.out hg1)
  have HO2 : Hid (OwnM w.heap.size (.slice (some ⟨w.heap.size, 0, none⟩) 0 0) [] w1) := World.ownsRow.kept HO1.out hg1 (.inr (by simp [Value.ownBlock]; omega))
  clear hN hs1 hg1 Hs0 Hg0 HO1 HW1
  go_wp2
  go_loopw [3, 4] (fun ov iv wr => ∃ (k a' : Nat) (T : List GMx), iv = .int .i64 k ∧ T.length + k ≤ 5 ∧ a' + 30 * k ≤ a + 151 ∧ Hid (∀ t ∈ T, t.fits 20) ∧ Hid (Src wr g o c.length cp a' z) ∧ Hid (w.grownBy wr (some g)) ∧ Hid (OwnM w.heap.size ov T wr)) (fun _ iv _ => (Lib.intOf iv).toNat)
  case atStart => exact ⟨v, a + 1, [], by go_num, by simp; omega, by omega, fun t ht => by simp at ht, Hs1, Hg1, HO2⟩
  case round =>
    clear Hs1 Hg1 HO2
    obtain ⟨k, a', T, rfl, hTk, hak, HT, Hs, Hg, HO⟩ := hrel
    by_cases hk : 0 < k
    · have HCW : Hid (Code g wr o c) := HC.out.grown Hg.out (Nat.le_refl _)
      have hgr0 : g < wr.heap.size := Hs.out.lt
      have hwr0 : w.heap.size ≤ wr.heap.size := Hg.out.size
      have HG : Hid (GoneBy wr g o c.length cp a' z 0 wr.drew) := ⟨gr_below (Below.refl _ _).drew, a', by omega, Hs.out.below (Below.refl _ _).drew⟩
      go_wp2
      obtain ⟨W0, hW0⟩ : ∃ V, V = wr := ⟨_, rfl⟩
      subst hW0
      refine wp_region_any (by kernel_rfl) ?_
      refine wpAny_phase 16 2 #[true, true, true, true, true, true, true, true, true, true, true, true, true, true, true, true, false, false] mxDst (mxAct g _ u3 _ _ _ _ _ _ u10 u11 u28) (mxFact u3 g W0.heap.size) (GoneBy W0 g o c.length cp a' z) (fun w w' => w.grownBy w' (some g)) rfl rfl (by decide) rfl (by kernel_rfl) (by kernel_rfl) ?_ (mxFact.gr hgr0) ?hend ?hstep _ _ 0 (fun j => match j with | 12 => u12 | 13 => u13 | 14 => u14 | 15 => u15 | 16 => u16 | 17 => u17 | 18 => u18 | 19 => u19 | 20 => u20 | 21 => u21 | 22 => u22 | 23 => u23 | 24 => u24 | 25 => u25 | 26 => u26 | 27 => u27 | _ => undef) _ rfl rfl rfl (by intro j hj; simp [Array.getD]) ?_ HG.out ?_
      · intro i j hi hj hne
        have e1 : ∀ q, q < 16 → mxDst q = q + 12 := by decide
        rw [e1 i hi, e1 j hj]
        omega
      case hend =>
        intro x wq hG hf
        have f0 : x 12 = u3 := hf 0 (by decide)
        obtain ⟨b, t, e15, hb, hbk, hft⟩ := hf 15 (by decide)
        have e15' : x 27 = .slice (some ⟨b, 0, none⟩) 1 1 := e15
        obtain ⟨hgq, a1, ha1, hs1⟩ := hG
        have HOq : OwnM w.heap.size u3 T wq := World.ownsRow.kept HO.out hgq (by
          cases hu : u3.ownBlock with
          | none => exact .inl rfl
          | some q =>
            right
            have := (World.ownsRow.lt HO.out q hu).1
            intro e
            have := Option.some.inj e
            omega)
        have hsq : w.heap.size ≤ wq.heap.size := Nat.le_trans hwr0 hgq.size
        have hcel : ∀ j u, (mxCells [t])[j]? = some u → wq.cell? ((⟨b, 0, none⟩ : Addr).add j) = some u := by
          intro j u hj
          rw [Addr.add_lit, Nat.zero_add]
          match j, hj with
          | 0, hj => cases hj; simp [World.cell?, hbk]
          | 1, hj => cases hj; simp [World.cell?, hbk]
          | 2, hj => cases hj; simp [World.cell?, hbk]
        have hTl : T.length ≤ 5 := by omega
        have hblk : ∀ q, u3.ownBlock = some q → w.heap.size ≤ q := fun q hq => (World.ownsRow.lt HO.out q hq).1
        clear hf e15 hbk
        refine wpAny_ready (rs := [16]) (by kernel_rfl) (by simp) ?_
        refine AllReady.cons rfl (fun K hK => ?_) AllReady.nil
        rw [if_pos (by rfl)]
        refine opAppM _ _ rfl w.heap.size u3 T f0 HOq [t] ⟨b, 0, none⟩ 1 1 e15' rfl hcel (by simp; omega) hsq ?_
        intro v' w' hO' hG'
        refine hK _ _ ?_
        clear hK K
        have Hs2 : Hid (Src w' g o c.length cp a1 z) := ⟨by rw [hG'.block g hs1.lt (fun e => by have := hblk g e.symm; omega)]; exact hs1.blk⟩
        have Hg2 : Hid (w.grownBy w' (some g)) := by
          have h1 := gr_trans Hg.out hgq
          exact ⟨hG'.os.trans h1.os, hG'.tape.trans h1.tape, hG'.output.trans h1.output, Nat.le_trans h1.size hG'.size, fun i hi hr => (hG'.block i (Nat.lt_of_lt_of_le hi h1.size) (fun e => by have := hblk i e.symm; omega)).trans (h1.block i hi hr)⟩
        have HO2 := mkHid hO'
        have HT2 : Hid (∀ q ∈ T ++ [t], q.fits 20) := by
          intro q hq
          rcases List.mem_append.1 hq with hq | hq
          · exact HT.out q hq
          · simp only [List.mem_cons, List.not_mem_nil, or_false] at hq
            subst hq
            exact hft
        have hT2 : (T ++ [t]).length ≤ T.length + 1 := by simp
        clear hO' hG' HOq hcel hs1 hgq
        generalize T ++ [t] = T2 at *
        show wpAny _ _ _ _ 1 _ { tmps := #[.pointer (some ⟨g, 0, none⟩), undef, _, u3, _, _, _, _, _, _, u10, u11, x 12, x 13, x 14, x 15, x 16, x 17, x 18, x 19, x 20, x 21, x 22, x 23, x 24, x 25, x 26, x 27, v', undef], defers := [] } w'
        generalize x 13 = y13
        generalize x 14 = y14
        generalize x 15 = y15
        generalize x 16 = y16
        generalize x 17 = y17
        generalize x 18 = y18
        generalize x 19 = y19
        generalize x 20 = y20
        generalize x 21 = y21
        generalize x 22 = y22
        generalize x 23 = y23
        generalize x 24 = y24
        generalize x 25 = y25
        generalize x 26 = y26
        refine wpAny_ready (rs := [17]) (by kernel_rfl) (by simp) ?_
        refine AllReady.cons rfl (fun K hK => ?_) AllReady.nil
        go_simp
        refine hK _ _ ?_
        clear hK K
        go_simp
        refine wpAny_done (by kernel_rfl) ?_ _
        go_simp
        go_wp2
        go_roundw
        case rel => exact ⟨k - 1, a1, T2, by go_num, by omega, by omega, HT2, Hs2, Hg2, HO2⟩
        case measure => simp [Lib.intOf]; omega
      case hstep =>
        clear HO HT Hs Hg HC
        intro k2 x L wr i hil hkl hG hi hf
        rcases (show i = 0 ∨ i = 1 ∨ i = 2 ∨ i = 3 ∨ i = 4 ∨ i = 5 ∨ i = 6 ∨ i = 7 ∨ i = 8 ∨ i = 9 ∨ i = 10 ∨ i = 11 ∨ i = 12 ∨ i = 13 ∨ i = 14 ∨ i = 15 by omega) with rfl | rfl | rfl | rfl | rfl | rfl | rfl | rfl | rfl | rfl | rfl | rfl | rfl | rfl | rfl | rfl
        · clear hi hf
          refine wpOp_step rfl (fun K hK => ?_)
          go_simp
          exact hK _ _ ⟨u3, by simp [put, mxDst], rfl, gr_refl _ _, hG.still (Below.refl _ _)⟩
        · clear hi hf
          refine wpOp_step rfl (fun K hK => ?_)
          go_simp
          have hbb : ∀ cs, Below wr.heap.size wr (wr.alloc (.cells cs 9)) := fun cs => (Below.refl _ _).alloc (Nat.le_refl _) _
          refine hK _ _ ⟨.slice (some ⟨wr.heap.size, 0, none⟩) 3 3, by simp [put, mxDst], ⟨_, rfl, hG.1.size, ?_⟩, gr_below (hbb _), hG.still (hbb _)⟩
          intro k hk
          exact tabM_get (by simpa using hk) (by decide)
        · clear hi hf
          refine wpOp_step rfl (fun K hK => ?_)
          go_simp
          exact hK _ _ ⟨.pointer (some ⟨g, 0, none⟩), by simp [put, mxDst], rfl, gr_refl _ _, hG.still (Below.refl _ _)⟩
        · have e0 : x 14 = .pointer (some ⟨g, 0, none⟩) := hf 2 (by omega) (ready_dep hi rfl 2 (by kernel_rfl))
          clear hi hf
          obtain ⟨hgr, a1, ha1, hs1⟩ := hG
          have hN := srcN g o c cp a1 z 3 wr hs1 (HCW.out.grown hgr (Nat.le_refl _)) (by omega) hl (by omega) (by omega)
          refine wpOp_step rfl (fun K hK => ?_)
          go_simp
          refine hN.mono ?_
          rintro e w2 ⟨v, rfl, hv, hs2, hg2⟩
          go_simp
          exact hK _ _ ⟨.int .i64 (v : Int), by simp [put, mxDst, e0], ⟨v, rfl, Nat.zero_le _, by omega⟩, hg2, gr_trans hgr hg2, a1 + 1, by omega, hs2⟩
        · have f0 := hf 1 (by omega) (ready_dep hi rfl 1 (by kernel_rfl))
          have f2 := hf 3 (by omega) (ready_dep hi rfl 3 (by kernel_rfl))
          clear hi hf
          obtain ⟨b, e0, hb, ht⟩ := f0
          obtain ⟨k2, e1, -, hk⟩ := f2
          obtain ⟨t, hc, hts⟩ := ht k2 hk
          have hk3 : (k2 : Int) < 3 := by omega
          have e0' : x 13 = .slice (some ⟨b, 0, none⟩) 3 3 := e0
          have e1' : x 15 = .int .i64 k2 := e1
          clear e0 e1 ht
          refine wpOp_step rfl (fun K hK => ?_)
          go_simp
          exact hK _ _ ⟨.pointer (some ⟨b, k2, none⟩), by simp [put, mxDst, e0', e1'], ⟨b, k2, t, rfl, hb, hc, hts⟩, gr_refl _ _, hG.still (Below.refl _ _)⟩
        · have f3 := hf 4 (by omega) (ready_dep hi rfl 4 (by kernel_rfl))
          clear hi hf
          obtain ⟨b, k2, t, e0, hb, hc, hts⟩ := f3
          have e0' : x 16 = .pointer (some ⟨b, k2, none⟩) := e0
          clear e0
          refine wpOp_step rfl (fun K hK => ?_)
          go_simp
          exact hK _ _ ⟨.string t, by simp [put, mxDst, e0'], ⟨t, rfl, hts⟩, gr_refl _ _, hG.still (Below.refl _ _)⟩
        · clear hi hf
          refine wpOp_step rfl (fun K hK => ?_)
          go_simp
          exact hK _ _ ⟨.pointer (some ⟨g, 0, none⟩), by simp [put, mxDst], rfl, gr_refl _ _, hG.still (Below.refl _ _)⟩
        · have e0 : x 18 = .pointer (some ⟨g, 0, none⟩) := hf 6 (by omega) (ready_dep hi rfl 6 (by kernel_rfl))
          clear hi hf
          obtain ⟨hgr, a1, ha1, hs1⟩ := hG
          have hN := srcN g o c cp a1 z 3 wr hs1 (HCW.out.grown hgr (Nat.le_refl _)) (by omega) hl (by omega) (by omega)
          refine wpOp_step rfl (fun K hK => ?_)
          go_simp
          refine hN.mono ?_
          rintro e w2 ⟨v, rfl, hv, hs2, hg2⟩
          go_simp
          exact hK _ _ ⟨.int .i64 (v : Int), by simp [put, mxDst, e0], ⟨v, rfl, Nat.zero_le _, by omega⟩, hg2, gr_trans hgr hg2, a1 + 1, by omega, hs2⟩
        · have f3 := hf 7 (by omega) (ready_dep hi rfl 7 (by kernel_rfl))
          clear hi hf
          obtain ⟨k2, e0, -, hk⟩ := f3
          have e0' : x 19 = .int .i64 k2 := e0
          have wk : IntKind.i64.wrap (10 * (k2 : Int)) = 10 * (k2 : Int) := wrap_inX _ (by omega) (by omega)
          clear e0
          refine wpOp_step rfl (fun K hK => ?_)
          go_simp
          exact hK _ _ ⟨.int .i64 (10 * (k2 : Int)), by simp [put, mxDst, e0'], ⟨10 * k2, by go_num, Nat.zero_le _, by omega⟩, gr_refl _ _, hG.still (Below.refl _ _)⟩
        · clear hi hf
          refine wpOp_step rfl (fun K hK => ?_)
          go_simp
          have hbb : ∀ cs, Below wr.heap.size wr (wr.alloc (.cells cs 9)) := fun cs => (Below.refl _ _).alloc (Nat.le_refl _) _
          refine hK _ _ ⟨.slice (some ⟨wr.heap.size, 0, none⟩) 3 3, by simp [put, mxDst], ⟨_, rfl, hG.1.size, ?_⟩, gr_below (hbb _), hG.still (hbb _)⟩
          intro k hk
          exact tabM_get (by simpa using hk) (by decide)
        · clear hi hf
          refine wpOp_step rfl (fun K hK => ?_)
          go_simp
          exact hK _ _ ⟨.pointer (some ⟨g, 0, none⟩), by simp [put, mxDst], rfl, gr_refl _ _, hG.still (Below.refl _ _)⟩
        · have e0 : x 22 = .pointer (some ⟨g, 0, none⟩) := hf 10 (by omega) (ready_dep hi rfl 10 (by kernel_rfl))
          clear hi hf
          obtain ⟨hgr, a1, ha1, hs1⟩ := hG
          have hN := srcN g o c cp a1 z 3 wr hs1 (HCW.out.grown hgr (Nat.le_refl _)) (by omega) hl (by omega) (by omega)
          refine wpOp_step rfl (fun K hK => ?_)
          go_simp
          refine hN.mono ?_
          rintro e w2 ⟨v, rfl, hv, hs2, hg2⟩
          go_simp
          exact hK _ _ ⟨.int .i64 (v : Int), by simp [put, mxDst, e0], ⟨v, rfl, Nat.zero_le _, by omega⟩, hg2, gr_trans hgr hg2, a1 + 1, by omega, hs2⟩
        · have f0 := hf 9 (by omega) (ready_dep hi rfl 9 (by kernel_rfl))
          have f2 := hf 11 (by omega) (ready_dep hi rfl 11 (by kernel_rfl))
          clear hi hf
          obtain ⟨b, e0, hb, ht⟩ := f0
          obtain ⟨k2, e1, -, hk⟩ := f2
          obtain ⟨t, hc, hts⟩ := ht k2 hk
          have hk3 : (k2 : Int) < 3 := by omega
          have e0' : x 21 = .slice (some ⟨b, 0, none⟩) 3 3 := e0
          have e1' : x 23 = .int .i64 k2 := e1
          clear e0 e1 ht
          refine wpOp_step rfl (fun K hK => ?_)
          go_simp
          exact hK _ _ ⟨.pointer (some ⟨b, k2, none⟩), by simp [put, mxDst, e0', e1'], ⟨b, k2, t, rfl, hb, hc, hts⟩, gr_refl _ _, hG.still (Below.refl _ _)⟩
        · have f3 := hf 12 (by omega) (ready_dep hi rfl 12 (by kernel_rfl))
          clear hi hf
          obtain ⟨b, k2, t, e0, hb, hc, hts⟩ := f3
          have e0' : x 24 = .pointer (some ⟨b, k2, none⟩) := e0
          clear e0
          refine wpOp_step rfl (fun K hK => ?_)
          go_simp
          exact hK _ _ ⟨.string t, by simp [put, mxDst, e0'], ⟨t, rfl, hts⟩, gr_refl _ _, hG.still (Below.refl _ _)⟩
        · have f5 := hf 5 (by omega) (ready_dep hi rfl 5 (by kernel_rfl))
          have f8 := hf 8 (by omega) (ready_dep hi rfl 8 (by kernel_rfl))
          have f13 := hf 13 (by omega) (ready_dep hi rfl 13 (by kernel_rfl))
          clear hi hf
          obtain ⟨t0, e0, h0⟩ := f5
          obtain ⟨k2, e1, -, hk2⟩ := f8
          obtain ⟨t1, e2, h1⟩ := f13
          have e0' : x 17 = .string t0 := e0
          have e1' : x 20 = .int .i64 k2 := e1
          have e2' : x 25 = .string t1 := e2
          clear e0 e1 e2
          refine wpOp_step rfl (fun K hK => ?_)
          go_simp
          exact hK _ _ ⟨.agg #[.string t0, .int .i64 k2, .string t1], by simp [put, mxDst, e0', e1', e2'], ⟨⟨t0, k2, t1⟩, ⟨by show t0.size ≤ 20; omega, by show t1.size ≤ 20; omega⟩, rfl⟩, gr_refl _ _, hG.still (Below.refl _ _)⟩
        · have f14 := hf 14 (by omega) (ready_dep hi rfl 14 (by kernel_rfl))
          clear hi hf
          obtain ⟨t, ht, e0⟩ := f14
          have e0' : x 26 = .agg #[.string t.domain, .int .i64 t.prefer, .string t.host] := e0
          clear e0
          refine wpOp_step rfl (fun K hK => ?_)
          go_simp
          have hbb : ∀ cs, Below wr.heap.size wr (wr.alloc (.cells cs 58)) := fun cs => (Below.refl _ _).alloc (Nat.le_refl _) _
          exact hK _ _ ⟨.slice (some ⟨wr.heap.size, 0, none⟩) 1 1, by simp [put, mxDst, e0'], ⟨wr.heap.size, t, rfl, hG.1.size, hp_alloc _ _, ht⟩, gr_below (hbb _), hG.still (hbb _)⟩
    
      · intro k2 j hk2
        simp [Array.getD] at hk2
      · intro j hj hd
        simp [Array.getD] at hd
    · go_wp2
      go_ret
      exact ⟨_, T, a', rfl, by omega, HT.out, HO.out, by omega, Hs.out, Hg.out⟩
end Go.Proofs.YtdjghniinnfncaaGreatDoor
namespace Go.Proofs.YtdjghniinnfncaaGreatDoor
open Go.RowKit Go.Lib Go.Maps
abbrev AlE := GAlias × Value
def alCells (E : List AlE) : List Value := E.flatMap fun e => [.string e.1.name, e.2]
set_option maxRecDepth 20000 in
theorem alCells_len (E : List AlE) : (alCells E).length = E.length * 2 := by
  induction E with
  | nil => rfl
  | cons r t ih => simp only [alCells, List.flatMap_cons, List.length_append, List.length_cons, List.length_nil] at ih ⊢; omega
set_option maxRecDepth 20000 in
theorem alCells_join (E R : List AlE) : alCells (E ++ R) = alCells E ++ alCells R := by simp [alCells, List.flatMap_append]
set_option maxRecDepth 20000 in
theorem alCells_at (E : List AlE) : ∀ (i : Nat) (h : i < E.length), (alCells E)[i * 2]? = some (.string E[i].1.name) ∧ (alCells E)[i * 2 + 1]? = some E[i].2 := by
  induction E with
  | nil => intro i h; exact absurd h (Nat.not_lt_zero _)
  | cons r t ih =>
    intro i h
    have e : alCells (r :: t) = .string r.1.name :: r.2 :: alCells t := rfl
    rw [e]
    cases i with
    | zero => exact ⟨rfl, rfl⟩
    | succ i =>
      have := ih i (by simpa using h)
      rw [show (i + 1) * 2 = i * 2 + 1 + 1 by omega]
      simpa using this
set_option maxRecDepth 20000 in
theorem own_apartA {w : World} {B B' s s' n n' : Nat} {e e' : TypeId} {v v' : Value} {xs xs' : List Value} (h : w.ownsRow B e s v n xs) (h' : w.ownsRow B' e' s' v' n' xs') (he : e ≠ e') : v.ownBlock = none ∨ v.ownBlock ≠ v'.ownBlock := by
  rcases h.2 with ⟨rfl, -⟩ | ⟨g, cap, cur, rfl, -, hg, -⟩
  · exact .inl rfl
  · right
    rcases h'.2 with ⟨rfl, -⟩ | ⟨g', cap', cur', rfl, -, hg', -⟩
    · simp [Value.ownBlock]
    · intro e1
      simp only [Value.ownBlock, Option.some.injEq] at e1
      rw [e1, hg'] at hg
      simp only [Option.some.injEq, Obj.cells.injEq] at hg
      exact he hg.2.1.symm
set_option maxRecDepth 20000 in
/-- A row stands where its block does. -/
theorem row_stay {B s n : Nat} {e : TypeId} {v : Value} {xs : List Value} {w w' : World} (h : w.ownsRow B e s v n xs) (hk : ∀ k, v.ownBlock = some k → w'.heap[k]? = w.heap[k]?) : w'.ownsRow B e s v n xs := by
  obtain ⟨h1, h2⟩ := h
  refine ⟨h1, ?_⟩
  rcases h2 with h2 | ⟨k, cap, cur, rfl, e2, e3, e4⟩
  · exact .inl h2
  · exact .inr ⟨k, cap, cur, rfl, e2, (hk k rfl).trans e3, e4⟩
set_option maxRecDepth 20000 in
theorem row_same {B s n : Nat} {e : TypeId} {v : Value} {xs : List Value} {w w' : World} (h : w.ownsRow B e s v n xs) (hs : Same B w.heap.size w w') : w'.ownsRow B e s v n xs :=
  row_stay h fun k hk => hs k (World.ownsRow.lt h k hk).1 (World.ownsRow.lt h k hk).2
set_option maxRecDepth 20000 in
theorem OwnX.sameX {B : Nat} {v : Value} {P : List ByteArray} {w w' : World} (h : OwnX B v P w) (hs : Same B w.heap.size w w') : OwnX B v P w' := row_same h hs
set_option maxRecDepth 20000 in
theorem OwnX.baseA {B B' : Nat} {v : Value} {F : List ByteArray} {w : World} (h : OwnX B v F w) (hB : B' ≤ B) : OwnX B' v F w := by
  refine ⟨h.1, ?_⟩
  rcases h.2 with h0 | ⟨g, cap, cur, hv, hg, hr⟩
  · exact .inl h0
  · exact .inr ⟨g, cap, cur, hv, Nat.le_trans hB hg, hr⟩
/-- The slice v, whose array is among the blocks from B on, holds just the aliases E, each of which has a row of texts among these blocks. -/
structure Al (B : Nat) (v : Value) (E : List AlE) (w : World) : Prop where
  row : w.ownsRow B 32 2 v E.length (alCells E)
  own : ∀ e ∈ E, OwnX B e.2 e.1.toF w
set_option maxRecDepth 20000 in
theorem Al.made (B : Nat) (w : World) (hB : B ≤ w.heap.size) : Al B (.slice (some ⟨w.heap.size, 0, none⟩) 0 0) [] (w.alloc (.cells #[] 32)) :=
  ⟨⟨rfl, .inr ⟨w.heap.size, 0, #[], rfl, hB, heap_alloc_at _ _, Nat.le_refl _, Nat.zero_le _, rfl, rfl⟩⟩, fun _ h => by simp at h⟩
set_option maxRecDepth 20000 in
theorem Al.shape {B : Nat} {v : Value} {E : List AlE} {w : World} (h : Al B v E w) : ∃ o cap, v = .slice o E.length cap := by
  rcases h.row.2 with ⟨rfl, h0⟩ | ⟨g, cap, cur, rfl, -⟩
  · exact ⟨none, 0, by rw [h0]⟩
  · exact ⟨_, cap, rfl⟩
set_option maxRecDepth 20000 in
theorem Al.same {B : Nat} {v : Value} {E : List AlE} {w w' : World} (h : Al B v E w) (hs : Same B w.heap.size w w') : Al B v E w' :=
  ⟨row_same h.row hs, fun e he => (h.own e he).sameX hs⟩
set_option maxRecDepth 20000 in
theorem Al.below {B : Nat} {v : Value} {E : List AlE} {w w' : World} (h : Al B v E w) (hb : Below w.heap.size w w') : Al B v E w' := h.same (Same.of_below hb (Nat.le_refl _))
set_option maxRecDepth 20000 in
theorem Al.gr {B g : Nat} {v : Value} {E : List AlE} {w w' : World} (h : Al B v E w) (hg : w.grownBy w' (some g)) (hB : g < B) : Al B v E w' := h.same (Same.gr hg hB (Nat.le_refl _))
set_option maxRecDepth 20000 in
theorem Al.base {B B' : Nat} {v : Value} {E : List AlE} {w : World} (h : Al B v E w) (hB : B' ≤ B) : Al B' v E w := by
  refine ⟨⟨h.row.1, ?_⟩, fun e he => (h.own e he).baseA hB⟩
  rcases h.row.2 with h0 | ⟨g, cap, cur, hv, hg, hr⟩
  · exact .inl h0
  · exact .inr ⟨g, cap, cur, hv, Nat.le_trans hB hg, hr⟩
set_option maxRecDepth 20000 in
theorem Al.gl {B : Nat} {o : Option Addr} {n cap : Nat} {E : List AlE} {w : World} (h : Al B (.slice o n cap) E w) : GAliassL B w.heap.size w o (E.map (·.1)) := by
  intro i hi0
  have hi : i < E.length := by simpa using hi0
  have hl := World.ownsRow.lt h.row
  have hrow := h.row
  rcases hrow.2 with ⟨h1, h0⟩ | ⟨g, cap', cur, h1, hB, -⟩
  · omega
  · simp only [Value.slice.injEq] at h1
    obtain ⟨rfl, rfl, rfl⟩ := h1
    have d0 := World.ownsRow.cells hrow (g := g) rfl (i * 2) _ (alCells_at E i hi).1
    have d1 := World.ownsRow.cells hrow (g := g) rfl (i * 2 + 1) _ (alCells_at E i hi).2
    refine ⟨⟨g, 0, none⟩, E[i].2, rfl, hB, (hl g rfl).2, ?_, ?_⟩
    · rw [add_off] at d0 d1 ⊢
      rw [List.getElem_map]
      exact ⟨d0, d1⟩
    · rw [List.getElem_map]
      have hx := h.own E[i] (List.getElem_mem hi)
      obtain ⟨oo, cc, hv⟩ := hx.shape
      rw [hv] at hx
      exact ⟨⟨oo, cc, hv, hx.txL⟩⟩
set_option maxRecDepth 20000 in
theorem Tryz.infoGAl : (Tryz.prog.info? 32).map (fun i => (i.zero, i.size, i.bytes)) = some (some (.agg #[.string ⟨#[]⟩, .slice none 0 0]), 2, 40) := by kernel_rfl
set_option maxRecDepth 20000 in
/-- An append of aliases. -/
theorem wp_appA {w : World} {ops : Array Oper} {rest : List Oper} {o : Oper} {a : Act} {Q : Exit → Act → World → Prop} (hgd : o.guard = none) (s x : Operand)
    (ho : o.op = .call { callee := .builtin .append, args := #[s, x], argTypes := #[23, 23] })
    (B : Nat) (v : Value) (C : List AlE) (hs : a.eval s = v) (hown : Al B v C w) (R : List AlE) (ad : Addr)
    (n c : Nat) (hx : a.eval x = .slice (some ad) n c) (hn : n = R.length) (hR : ∀ j u, (alCells R)[j]? = some u → w.cell? (ad.add j) = some u) (hRo : ∀ e ∈ R, OwnX B e.2 e.1.toF w) (hlen : C.length + R.length ≤ 10000) (hB : B ≤ w.heap.size)
    (h : ∀ v' w', Al B v' (C ++ R) w' → w.grownBy w' v.ownBlock → wpList Tryz.prog ops Q rest (a.put o.dst v') w') : wpList Tryz.prog ops Q (o :: rest) a w := by
  obtain ⟨i0, hi0, hz0, hz1, hz2⟩ := info_parts Tryz.infoGAl
  subst hn
  have hone : ∀ u ∈ alCells R, u.oneCell' = true := by
    intro u hu
    simp only [alCells, List.mem_flatMap] at hu
    obtain ⟨m, hm0, hm⟩ := hu
    obtain ⟨oo, cc, hv⟩ := (hRo m hm0).shape
    simp at hm
    rcases hm with rfl | rfl
    · rfl
    · rw [hv]; rfl
  refine wpList_append_own _ hgd s x 23 ho B 32 i0 _ 2 40 Tryz.underlying23 hi0 hz0 hz1 hz2 rfl (by decide) v C.length (alCells C) hs hown.row ad R.length c (alCells R) hx
    (alCells_len R) hR hone (by unfold maxLen; omega) (by omega) hB ?_
  intro v' w' h1 h2 _
  refine h v' w' ⟨?_, ?_⟩ h2
  · rw [alCells_join, List.length_append]
    exact h1
  · intro e he
    have hx0 : OwnX B e.2 e.1.toF w := by
      rcases List.mem_append.1 he with he | he
      · exact hown.own e he
      · exact hRo e he
    exact hx0.keep h2 (own_apartA (show w.ownsRow B 9 1 _ _ _ from hx0) hown.row (by decide))
set_option maxRecDepth 20000 in
theorem Al.stepA {N : Nat} {v : Value} {C : List AlE} {W V V' : World} (h : Al N v C V) (hb : Below N W V) (hN : N ≤ V.heap.size) (hg : V.grownBy V' v.ownBlock) : Below N W V' ∧ N ≤ V'.heap.size :=
  ⟨hb.grown hg hN (fun j hj => (World.ownsRow.lt h.row j hj).1), Nat.le_trans hN hg.size⟩
end Go.Proofs.YtdjghniinnfncaaGreatDoor
namespace Go.Proofs.YtdjghniinnfncaaGreatDoor
open Go.RowKit Go.Lib Go.Maps
set_option maxRecDepth 20000 in
theorem GoneBy.mono {W : World} {g cl cp a0 z k k' : Nat} {o : Option Addr} {w : World} (h : GoneBy W g o cl cp a0 z k w) (hk : k ≤ k') : GoneBy W g o cl cp a0 z k' w := by
  obtain ⟨h1, a', h2, h3⟩ := h
  exact ⟨h1, a', by omega, h3⟩
set_option maxRecDepth 20000 in
theorem OwnM.grS {B g : Nat} {v : Value} {T : List GMx} {w w' : World} (h : OwnM B v T w) (hg : w.grownBy w' (some g)) (hB : g < B) : OwnM B v T w' := row_same h (Same.gr hg hB (Nat.le_refl _))
def hoFact (g B : Nat) (j : Nat) (v : Value) (w : World) : Prop :=
  match j with
  | 0 => v = .pointer (some ⟨g, 0, none⟩)
  | 1 => ∃ T : List GMx, T.length ≤ 5 ∧ (∀ t ∈ T, t.fits 20) ∧ OwnM B v T w
  | 2 => tabM 9 B 4 v w
  | 3 => v = .pointer (some ⟨g, 0, none⟩)
  | 4 => numM 0 4 v
  | 5 => ptrM 9 B v w
  | 6 => txtM 9 v
  | 7 => ∃ T : List GMx, T.length ≤ 5 ∧ (∀ t ∈ T, t.fits 20) ∧ OwnM B v T w
  | 8 => txtM 9 v
  | _ => True
def hoDst (j : Nat) : Nat :=
  match j with
  | 0 => 7
  | 1 => 8
  | 2 => 9
  | 3 => 10
  | 4 => 11
  | 5 => 12
  | 6 => 13
  | 7 => 2
  | 8 => 3
  | _ => 999
set_option maxRecDepth 20000 in
theorem hoFact.gr {g B : Nat} (hB : g < B) (j : Nat) (v : Value) (w w' : World) (h : hoFact g B j v w) (hg : w.grownBy w' (some g)) : hoFact g B j v w' := by
  unfold hoFact at h ⊢
  split
  case h_2 =>
    obtain ⟨T, h1, h2, h3⟩ := h
    exact ⟨T, h1, h2, h3.grS hg hB⟩
  case h_8 =>
    obtain ⟨T, h1, h2, h3⟩ := h
    exact ⟨T, h1, h2, h3.grS hg hB⟩
  all_goals first
    | exact tabM.gr h hg hB
    | exact ptrM.gr h hg hB
    | exact h
    | trivial
abbrev hoAct (g : Nat) (v0 v5 v6 : Value) (x : Nat → Value) : Act := { tmps := #[v0, undef, x 2, x 3, .pointer (some ⟨g, 0, none⟩), v5, v6, x 7, x 8, x 9, x 10, x 11, x 12, x 13], defers := [] }
set_option maxRecDepth 20000 in
set_option maxHeartbeats 4000000 in
theorem drawHostsOf (o : Option Addr) (c : List UInt8) (cp : Nat) (w : World) (hc : Code w.heap.size w o c) (hl : c.length ≤ 1048576) :
    Calls Tryz.prog 8 #[.slice o c.length cp] w fun e w' => ∃ (v : Value) (T : List GMx) (d : ByteArray), e = .returned (.tuple #[v, .string d]) ∧ T.length ≤ 5 ∧ (∀ t ∈ T, t.fits 20) ∧ OwnM w.heap.size v T w' ∧ d.size ≤ 20 ∧ Below w.heap.size w w' := by
  have hS := srcNew o c.length cp w hl
  have HC0 := mkHid hc
  clear hc
  go_enter Tryz.func8, Tryz.ntmps8
  go_wp2_with fail
  refine hS.mono ?_
  rintro e w1 ⟨z, rfl, hz, hs0, hb0⟩
  have HCW : Hid (Code w.heap.size w1 o c) := HC0.out.below hb0
  have Hb0 := mkHid hb0
  have hgl := hs0.lt
  have HG : Hid (GoneBy w1 w.heap.size o c.length cp 0 z (200 * 0) w1.drew) := ⟨gr_below (Below.refl _ _).drew, 0, by omega, hs0.below (Below.refl _ _).drew⟩
  clear hS hs0 hb0 HC0
  obtain ⟨g, hg⟩ : ∃ g, g = w.heap.size := ⟨_, rfl⟩
  have Hg := mkHid hg
  rw [← hg] at HCW HG hgl
  clear hg
  go_wp2
  rw [← Hg.out]
  refine wp_region_any (by kernel_rfl) ?_
  refine wpAny_phase 9 0 (Array.replicate 9 true) hoDst (hoAct g _ _ _) (hoFact g w1.heap.size) (fun k w => GoneBy w1 g o c.length cp 0 z (200 * k) w) (fun w w' => w.grownBy w' (some g)) rfl rfl (by decide) rfl (by kernel_rfl) (by kernel_rfl) ?_ (hoFact.gr hgl) ?hend ?hstep _ _ 0 (fun j => match j with | 2 => .slice none 0 0 | 3 => .string ⟨#[]⟩ | _ => undef) _ rfl rfl rfl (by intro j hj; simp [Array.getD]) ?_ HG.out ?_
  · intro i j hi hj hne
    have e1 : ∀ q, q < 9 → ∀ r, r < 9 → q ≠ r → hoDst q ≠ hoDst r := by decide
    exact e1 j hj i hi hne
  case hend =>
    intro x wr hG hf
    obtain ⟨T, hT, hfit, hO⟩ := hf 7 (by decide)
    obtain ⟨t, e, ht⟩ := hf 8 (by decide)
    obtain ⟨hgr, a1, ha1, hs1⟩ := hG
    have e2 : x 3 = .string t := e
    have hO2 : OwnM w1.heap.size (x 2) T wr := hO
    have hbf : Below w.heap.size w wr := by
      rw [Hg.out] at hgr
      exact gr_new Hb0.out hgr
    have hsz := Hb0.out.size
    clear hf e hO
    refine wpAny_done (by kernel_rfl) ?_ _
    go_simp
    go_wp2
    go_ret2
    refine ⟨x 2, T, t, by rw [← e2]; rfl, hT, hfit, ?_, by omega, ?_⟩
    · exact hO2.base (by omega)
    · exact hbf
  case hstep =>
    intro k x L wr i hil hkl hG hi hf
    rcases (show i = 0 ∨ i = 1 ∨ i = 2 ∨ i = 3 ∨ i = 4 ∨ i = 5 ∨ i = 6 ∨ i = 7 ∨ i = 8 by omega) with rfl | rfl | rfl | rfl | rfl | rfl | rfl | rfl | rfl
    · clear hi hf
      refine wpOp_step rfl (fun K hK => ?_)
      go_simp
      exact hK _ _ ⟨.pointer (some ⟨g, 0, none⟩), by simp [put, hoDst], rfl, gr_refl _ _, (hG.still (Below.refl _ _)).mono (by omega)⟩
    · have e0 : x 7 = .pointer (some ⟨g, 0, none⟩) := hf 0 (by omega) (ready_dep hi rfl 0 (by kernel_rfl))
      clear hi hf
      obtain ⟨hgr, a1, ha1, hs1⟩ := hG
      have hN := srcMx g o c cp a1 z wr hs1 (HCW.out.grown hgr (Nat.le_refl _)) (by omega) hl
      refine wpOp_step rfl (fun K hK => ?_)
      go_simp
      refine hN.mono ?_
      rintro e w2 ⟨v, T, a2, rfl, hT, hfit, hO, ha2, hs2, hg2⟩
      go_simp
      exact hK _ _ ⟨v, by simp [put, hoDst, e0], ⟨T, hT, hfit, hO.base hgr.size⟩, hg2, gr_trans hgr hg2, a2, by omega, hs2⟩
    · clear hi hf
      refine wpOp_step rfl (fun K hK => ?_)
      go_simp
      have hbb : ∀ cs, Below wr.heap.size wr (wr.alloc (.cells cs 9)) := fun cs => (Below.refl _ _).alloc (Nat.le_refl _) _
      refine hK _ _ ⟨.slice (some ⟨wr.heap.size, 0, none⟩) 4 4, by simp [put, hoDst], ⟨_, rfl, hG.1.size, ?_⟩, gr_below (hbb _), (hG.still (hbb _)).mono (by omega)⟩
      intro k hk
      exact tabM_get (by simpa using hk) (by decide)
    · clear hi hf
      refine wpOp_step rfl (fun K hK => ?_)
      go_simp
      exact hK _ _ ⟨.pointer (some ⟨g, 0, none⟩), by simp [put, hoDst], rfl, gr_refl _ _, (hG.still (Below.refl _ _)).mono (by omega)⟩
    · have e0 : x 10 = .pointer (some ⟨g, 0, none⟩) := hf 3 (by omega) (ready_dep hi rfl 3 (by kernel_rfl))
      clear hi hf
      obtain ⟨hgr, a1, ha1, hs1⟩ := hG
      have hN := srcN g o c cp a1 z 4 wr hs1 (HCW.out.grown hgr (Nat.le_refl _)) (by omega) hl (by omega) (by omega)
      refine wpOp_step rfl (fun K hK => ?_)
      go_simp
      refine hN.mono ?_
      rintro e w2 ⟨v, rfl, hv, hs2, hg2⟩
      go_simp
      exact hK _ _ ⟨.int .i64 (v : Int), by simp [put, hoDst, e0], ⟨v, rfl, Nat.zero_le _, by omega⟩, hg2, gr_trans hgr hg2, a1 + 1, by omega, hs2⟩
    · have f0 := hf 2 (by omega) (ready_dep hi rfl 2 (by kernel_rfl))
      have f2 := hf 4 (by omega) (ready_dep hi rfl 4 (by kernel_rfl))
      clear hi hf
      obtain ⟨b, e0, hb, ht⟩ := f0
      obtain ⟨k2, e1, -, hk⟩ := f2
      obtain ⟨t, hc, hts⟩ := ht k2 hk
      have hk3 : (k2 : Int) < 4 := by omega
      have e0' : x 9 = .slice (some ⟨b, 0, none⟩) 4 4 := e0
      have e1' : x 11 = .int .i64 k2 := e1
      clear e0 e1 ht
      refine wpOp_step rfl (fun K hK => ?_)
      go_simp
      exact hK _ _ ⟨.pointer (some ⟨b, k2, none⟩), by simp [put, hoDst, e0', e1'], ⟨b, k2, t, rfl, hb, hc, hts⟩, gr_refl _ _, (hG.still (Below.refl _ _)).mono (by omega)⟩
    · have f3 := hf 5 (by omega) (ready_dep hi rfl 5 (by kernel_rfl))
      clear hi hf
      obtain ⟨b, k2, t, e0, hb, hc, hts⟩ := f3
      have e0' : x 12 = .pointer (some ⟨b, k2, none⟩) := e0
      clear e0
      refine wpOp_step rfl (fun K hK => ?_)
      go_simp
      exact hK _ _ ⟨.string t, by simp [put, hoDst, e0'], ⟨t, rfl, hts⟩, gr_refl _ _, (hG.still (Below.refl _ _)).mono (by omega)⟩
    · have f3 := hf 1 (by omega) (ready_dep hi rfl 1 (by kernel_rfl))
      clear hi hf
      refine wpOp_step rfl (fun K hK => ?_)
      go_simp
      exact hK _ _ ⟨x 8, by simp [put, hoDst], f3, gr_refl _ _, (hG.still (Below.refl _ _)).mono (by omega)⟩
    · have f3 := hf 6 (by omega) (ready_dep hi rfl 6 (by kernel_rfl))
      clear hi hf
      refine wpOp_step rfl (fun K hK => ?_)
      go_simp
      exact hK _ _ ⟨x 13, by simp [put, hoDst], f3, gr_refl _ _, (hG.still (Below.refl _ _)).mono (by omega)⟩
  · intro k j hk
    simp [Array.getD] at hk
  · intro j hj hd
    simp [Array.getD] at hd
end Go.Proofs.YtdjghniinnfncaaGreatDoor
