
/- A source of draws: aliases. -/

/- The draws of Expand: facts of drawn regions. -/
import Derived.Test.YtdjghniinnfncaaGreatDoorGenBase
import Derived.Test.YtdjghniinnfncaaGreatDoorDrawExC
import Derived.Laws.Rows
namespace Go.Proofs.YtdjghniinnfncaaGreatDoor
open Go.RowKit Go.Lib Go.Maps
set_option maxRecDepth 20000 in
theorem opAppXd {w : World} {o : Oper} {a : Act} {K : Act → World → Prop} {Q : Exit → Act → World → Prop} (s x : Operand)
    (ho : o.op = .call { callee := .builtin .append, args := #[s, x], argTypes := #[26, 26] })
    (B : Nat) (v : Value) (C : List ByteArray) (hs : a.eval s = v) (hown : OwnX B v C w) (u : ByteArray) (g c : Nat) (hx : a.eval x = .slice (some ⟨g, 0, none⟩) 1 c) (hnew : w.cell? ⟨g, 0, none⟩ = some (.string u)) (hlen : C.length ≤ 1000000) (hB : B ≤ w.heap.size)
    (h : ∀ v' w', OwnX B v' (C ++ [u]) w' → w.grownBy w' v.ownBlock → K (a.put o.dst v') w') : o.wp Tryz.prog a w K Q := by
  obtain ⟨i0, hi0, hz0, hz1, hz2⟩ := info_parts Tryz.info9X
  unfold OwnX at hown
  obtain ⟨v', w', hr, h2, h3, h4, h5⟩ := run_append_own_at (P := Tryz.prog) w B 26 o.type 9 i0 (.string ⟨#[]⟩) 1 16 Tryz.underlying26 hi0 hz0 hz1 hz2 rfl (by decide) v C.length (strCellsX C) hown ⟨g, 0, none⟩ 1 c [.string u] rfl (by
    intro j y hj
    match j, hj with
    | 0, hj => simp at hj; subst hj; simpa [Addr.add] using hnew) (by
    intro y hy
    simp at hy
    subst hy
    rfl) (by unfold maxLen; omega) (by omega) hB
  unfold Oper.wp execOp
  simp only [ho, resolve, invoke, builtin, Sem.run_bind, Sem.run_pure, Result.andThen_ok, List.map_toArray, List.map_cons, List.map_nil, hs, hx, hr]
  refine h v' w' ?_ h3
  unfold OwnX strCellsX
  rw [List.map_append, List.length_append]
  exact h2
set_option maxRecDepth 20000 in
theorem gr_row {w0 w w' : World} {g : Nat} {v : Value} (h : w0.grownBy w (some g)) (hg : w.grownBy w' v.ownBlock) (hv : ∀ k, v.ownBlock = some k → w0.heap.size ≤ k) : w0.grownBy w' (some g) :=
  ⟨hg.os.trans h.os, hg.tape.trans h.tape, hg.output.trans h.output, Nat.le_trans h.size hg.size, fun i hi hr => (hg.block i (Nat.lt_of_lt_of_le hi h.size) (fun e => by have := hv i e.symm; omega)).trans (h.block i hi hr)⟩
set_option maxRecDepth 20000 in
theorem Src.row {w w' : World} {g n cp a z : Nat} {o : Option Addr} {v : Value} (h : Src w g o n cp a z) (hg : w.grownBy w' v.ownBlock) (hv : ∀ k, v.ownBlock = some k → k ≠ g) : Src w' g o n cp a z :=
  ⟨by rw [hg.block g h.lt (fun e => hv g e.symm rfl)]; exact h.blk⟩
set_option maxRecDepth 20000 in
theorem gr_setC {w0 w : World} {g b j : Nat} {v : Value} (h : w0.grownBy w (some g)) (hb : w0.heap.size ≤ b) : w0.grownBy (w.setCell ⟨b, j, none⟩ v) (some g) :=
  ⟨h.os, h.tape, h.output, by simpa [World.setCell] using h.size, fun i hi hr => by rw [← h.block i hi hr]; simp [World.setCell, Array.getElem?_modify, show b ≠ i by omega]⟩
set_option maxRecDepth 20000 in
theorem Src.setC {w : World} {g n cp a z b j : Nat} {o : Option Addr} {v : Value} (h : Src w g o n cp a z) (hb : b ≠ g) : Src (w.setCell ⟨b, j, none⟩ v) g o n cp a z :=
  ⟨by simp [World.setCell, Array.getElem?_modify, h.blk, hb]⟩
def alFact (tv : Value) (Bk g B : Nat) (j : Nat) (v : Value) (w : World) : Prop :=
  match j with
  | 0 => v = .pointer (some ⟨Bk, 1, none⟩)
  | 1 => v = tv
  | 2 => v = .pointer (some ⟨g, 0, none⟩)
  | 3 => txtM 15 v
  | 4 => ∃ (b : Nat) (t : ByteArray), v = .slice (some ⟨b, 0, none⟩) 1 1 ∧ B ≤ b ∧ w.heap[b]? = some (.cells #[.string t] 9) ∧ t.size ≤ 15
  | _ => True
def alDst (j : Nat) : Nat :=
  match j with
  | 0 => 27
  | 1 => 28
  | 2 => 29
  | 3 => 30
  | 4 => 31
  | _ => 999
set_option maxRecDepth 20000 in
theorem alFact.gr {tv : Value} {Bk g B : Nat} (hB : g < B) (j : Nat) (v : Value) (w w' : World) (h : alFact tv Bk g B j v w) (hg : w.grownBy w' (some g)) : alFact tv Bk g B j v w' := by
  unfold alFact at h ⊢
  split
  case h_5 =>
    obtain ⟨b, t, h1, h2, h3, h4⟩ := h
    exact ⟨b, t, h1, h2, by rw [hg.block b (hp_lt h3) (by intro e; have := Option.some.inj e; omega)]; exact h3, h4⟩
  all_goals first
    | exact h
    | trivial
abbrev alAct (L : List Value) (x : Nat → Value) (R : List Value) : Act := { tmps := (L ++ [x 27, x 28, x 29, x 30, x 31] ++ R).toArray, defers := [] }
set_option maxRecDepth 20000 in
set_option maxHeartbeats 8000000 in
theorem srcAliases (g : Nat) (o : Option Addr) (c : List UInt8) (cp a z : Nat) (w : World) (h : Src w g o c.length cp a z) (hc : Code g w o c) (ha : a ≤ 800000) (hl : c.length ≤ 1048576) :
    Calls Tryz.prog 12 #[.pointer (some ⟨g, 0, none⟩)] w fun e w' => ∃ (v : Value) (E : List AlE) (a' : Nat), e = .returned v ∧ E.length ≤ 3 ∧ (∀ e ∈ E, e.1.fits 30) ∧ Al w.heap.size v E w' ∧ a' ≤ a + 2000 ∧ Src w' g o c.length cp a' z ∧ w.grownBy w' (some g) := by
  have hgl := h.lt
  have HC : Hid (Code g w o c) := hc
  obtain ⟨W1, hW1⟩ : ∃ W, w.alloc (.cells #[] 32) = W := ⟨_, rfl⟩
  have b1 : Below w.heap.size w W1 := by rw [← hW1]; exact (Below.refl _ _).alloc (Nat.le_refl _) _
  have O1 : Al w.heap.size (.slice (some ⟨w.heap.size, 0, none⟩) 0 0) [] W1 := by rw [← hW1]; exact Al.made _ w (Nat.le_refl _)
  have Hs0 : Hid (Src W1 g o c.length cp a z) := h.below b1
  have Hg0 : Hid (w.grownBy W1 (some g)) := gr_below b1
  have HO1 := mkHid O1
  have HW1 := mkHid hW1
  have hN := srcN g o c cp a z 4 W1 Hs0.out (HC.out.grown Hg0.out (Nat.le_refl _)) (by omega) hl (by omega) (by omega)
  clear h hc O1 b1 hW1
  go_enter Tryz.func12, Tryz.ntmps12
  go_wp2_with fail
  rw [HW1.out]
  refine hN.mono ?_
  rintro e w1 ⟨v, rfl, hv, hs1, hg1⟩
  have Hs1 := mkHid hs1
  have Hg1 := mkHid (gr_trans Hg0.out hg1)
  have HO2 := mkHid (HO1.out.gr hg1 hgl)
  clear hN hs1 hg1 Hs0 Hg0 HO1 HW1
  go_wp2
  go_loopw [3, 4] (fun ov iv wr => ∃ (k a' : Nat) (E : List AlE), iv = .int .i64 k ∧ E.length + k ≤ 3 ∧ a' + 500 * k ≤ a + 1501 ∧ Hid (∀ e ∈ E, e.1.fits 30) ∧ Hid (Src wr g o c.length cp a' z) ∧ Hid (w.grownBy wr (some g)) ∧ Hid (Al w.heap.size ov E wr)) (fun _ iv _ => (Lib.intOf iv).toNat)
  case atStart => exact ⟨v, a + 1, [], by go_num, by simp; omega, by omega, fun t ht => by simp at ht, Hs1, Hg1, HO2⟩
  case round =>
    clear Hs1 Hg1 HO2
    obtain ⟨k, a', E, rfl, hEk, hak, HT, Hs, Hg, HO⟩ := hrel
    by_cases hk : 0 < k
    · obtain ⟨V0, hV0⟩ : ∃ V, V = wr := ⟨_, rfl⟩
      subst hV0
      have hgV : g < V0.heap.size := Hs.out.lt
      have hwV : w.heap.size ≤ V0.heap.size := Hg.out.size
      have hbA : ∀ cs, Below V0.heap.size V0 (V0.alloc (.cells cs 9)) := fun cs => (Below.refl _ _).alloc (Nat.le_refl _) _
      have HC0 : Hid (Code g V0 o c) := HC.out.grown Hg.out (Nat.le_refl _)
      have hN3 := fun cs => srcN g o c cp a' z 3 (V0.alloc (.cells cs 9)) (Hs.out.below (hbA cs)) (HC0.out.grown (gr_below (hbA cs)) (Nat.le_refl _)) (by omega) hl (by omega) (by omega)
      go_wp2_with fail
      refine (hN3 _).mono ?_
      rintro e w3 ⟨v3, rfl, hv3, hs3, hg3⟩
      obtain ⟨t, ht, hts⟩ := table_at (M := 4) hg3 hgV (show v3 < 3 by omega) (by decide)
      have Hg3 := mkHid (gr_trans (gr_below (hbA _)) hg3)
      have Hs3 := mkHid hs3
      have n0 : ¬ 9223372036854775807 < t.size + 10 := by omega
      have hv4 : v3 < 3 := by omega
      have hR2 := hp_alloc w3 (.cells #[.string ⟨#[]⟩, .slice none 0 0] 32)
      clear hN3 hg3 hbA hs3 Hs
      go_wp2_with (refine wpL_store_row rfl 32 _ _ rfl w3.heap.size _ rfl rfl 32 _ hR2 (by kernel_rfl) rfl (by simp [Value.oneCell']) ?_)
      obtain ⟨nm, hnm⟩ : ∃ nm, (t ++ (⟨#[64, 97, 46, 101, 120, 97, 109, 112, 108, 101]⟩ : ByteArray)) = nm := ⟨_, rfl⟩
      have hnz : nm.size ≤ 14 := by rw [← hnm, ByteArray.size_append]; exact Nat.add_le_add_right hts 10
      rw [hnm]
      obtain ⟨V5, hV5⟩ : ∃ V, (w3.alloc (.cells #[.string ⟨#[]⟩, .slice none 0 0] 32)).setRow w3.heap.size #[.string nm, .slice none 0 0] = V := ⟨_, rfl⟩
      have HB5 : Hid (V5.heap[w3.heap.size]? = some (.cells #[.string nm, .slice none 0 0] 32 (0, 0))) := by rw [← hV5]; exact setRow_heap _ _ _ _ _ _ hR2
      have hV3 : V0.heap.size ≤ w3.heap.size := Hg3.out.size
      have hoth : ∀ i, i < w3.heap.size → V5.heap[i]? = w3.heap[i]? := by
        intro i hi
        rw [← hV5, setRow_other _ _ _ _ (by omega)]
        exact ((Below.refl w3.heap.size w3).alloc (Nat.le_refl _) _).block i hi
      have hb5 : Below w3.heap.size w3 V5 := ⟨by rw [← hV5]; rfl, by rw [← hV5]; rfl, by rw [← hV5]; rfl, by rw [← hV5]; simp, hoth⟩
      have Hg5 := mkHid (gr_trans Hg3.out (gr_below hb5))
      have Hs5 := mkHid (Hs3.out.below hb5)
      have hBk5 : w3.heap.size < V5.heap.size := hp_lt HB5.out
      rw [hV5]
      obtain ⟨Bk, hBk⟩ : ∃ Bk, Bk = w3.heap.size := ⟨_, rfl⟩
      have HBk := mkHid hBk
      rw [← hBk] at HB5 hBk5 hV3 ⊢
      clear hBk hoth hb5 hV5 hR2 Hg3 Hs3 ht hts n0 hnm
      have hN5 := srcN g o c cp (a' + 1) z 4 V5 Hs5.out (HC0.out.grown Hg5.out (Nat.le_refl _)) (by omega) hl (by omega) (by omega)
      refine hN5.mono ?_
      rintro e w6 ⟨v6, rfl, hv6, hs6, hg6⟩
      have Hs6 := mkHid hs6
      have Hg6 := mkHid (gr_trans Hg5.out hg6)
      have HB6 : Hid (w6.heap[Bk]? = some (.cells #[.string nm, .slice none 0 0] 32 (0, 0))) := by
        show _ = _
        rw [hg6.block Bk hBk5 (by intro e; have := Option.some.inj e; omega)]
        exact HB5.out
      have hBk6 : Bk < w6.heap.size := hp_lt HB6.out
      clear hN5 hs6 hg6 Hs5 Hg5 HB5
      go_wp2
      go_loopw [6] (fun jv wr => ∃ (j a1 ct : Nat) (P : List ByteArray) (ot : Option Addr), jv = .int .i64 j ∧ P.length + j ≤ 3 ∧ a1 + 130 * j ≤ a' + 400 ∧ Hid (∀ t ∈ P, t.size ≤ 15) ∧ Hid (Src wr g o c.length cp a1 z) ∧ Hid (V0.grownBy wr (some g)) ∧ Hid (wr.heap[Bk]? = some (.cells #[.string nm, .slice ot P.length ct] 32 (0, 0))) ∧ Hid (OwnX (Bk + 1) (.slice ot P.length ct) P wr)) (fun jv _ => (Lib.intOf jv).toNat)
      case atStart => exact ⟨v6, a' + 2, 0, [], none, by go_num, by simp; omega, by omega, fun t ht => by simp at ht, Hs6, Hg6, HB6, OwnX.nil _ _⟩
      case round =>
        clear Hs6 Hg6 HB6
        obtain ⟨j, a1, ct, P, ot, rfl, hPj, haj, HP, Hs, Hgi, HB, HX⟩ := hrel
        by_cases hj : 0 < j
        · have HCW : Hid (Code g wr o c) := HC0.out.grown Hgi.out (Nat.le_refl _)
          have hgr0 : g < wr.heap.size := Hs.out.lt
          have hBw : Bk < wr.heap.size := hp_lt HB.out
          have HB1 : Hid (wr.cell? ⟨Bk, 1, none⟩ = some (.slice ot P.length ct)) := by show _ = _; simp [World.cell?, HB.out]
          have HG : Hid (GoneBy wr g o c.length cp a1 z (20 * 0) wr.drew) := ⟨gr_below (Below.refl _ _).drew, a1, by omega, Hs.out.below (Below.refl _ _).drew⟩
          go_wp2
          obtain ⟨W0, hW0⟩ : ∃ V, V = wr := ⟨_, rfl⟩
          subst hW0
          refine wp_region_any (by kernel_rfl) ?_
          refine wpAny_phase 5 3 #[true, true, true, true, true, false, false, false] alDst (fun x => alAct [_, _, _, _, _, _, _, _, _, _, _, _, _, _, _, _, _, _, _, _, _, _, _, _, _, _, _] x [_, _, _, _, _, _, _]) (alFact (.slice ot P.length ct) Bk g W0.heap.size) (fun k w => GoneBy W0 g o c.length cp a1 z (20 * k) w) (fun w w' => w.grownBy w' (some g)) rfl rfl (by decide) rfl (by kernel_rfl) (by kernel_rfl) ?_ (alFact.gr hgr0) ?hend ?hstep _ _ 0 (fun j => match j with | 27 => u27 | 28 => u28 | 29 => u29 | 30 => u30 | 31 => u31 | _ => undef) _ rfl rfl rfl (by intro j hj; simp [Array.getD]) ?_ HG.out ?_
          · intro i j hi hj hne
            have e1 : ∀ q, q < 5 → ∀ r, r < 5 → q ≠ r → alDst q ≠ alDst r := by decide
            exact e1 j hj i hi hne
          case hend =>
            intro x wq hG hf
            have f1 : x 28 = .slice ot P.length ct := hf 1 (by decide)
            obtain ⟨b, t, e4, hb, hbk, hft⟩ := hf 4 (by decide)
            have e4' : x 31 = .slice (some ⟨b, 0, none⟩) 1 1 := e4
            obtain ⟨hgq, a2, ha2, hs2⟩ := hG
            have HXq : OwnX (Bk + 1) (.slice ot P.length ct) P wq := HX.out.sameX (Same.gr hgq (by omega) (Nat.le_refl _))
            have hsq : Bk + 1 ≤ wq.heap.size := Nat.le_trans hBw hgq.size
            have hcel : wq.cell? ⟨b, 0, none⟩ = some (.string t) := by simp [World.cell?, hbk]
            have HBq : wq.heap[Bk]? = some (.cells #[.string nm, .slice ot P.length ct] 32 (0, 0)) := by
              rw [hgq.block Bk hBw (by intro e; have := Option.some.inj e; omega)]
              exact HB.out
            have hblk : ∀ q, (Value.slice ot P.length ct).ownBlock = some q → Bk + 1 ≤ q := fun q hq => (World.ownsRow.lt HX.out q hq).1
            have Hgq := mkHid (gr_trans Hgi.out hgq)
            clear hf e4 hbk
            refine wpAny_ready (rs := [5]) (by kernel_rfl) (by simp) ?_
            refine AllReady.cons rfl (fun K hK => ?_) AllReady.nil
            rw [if_pos (by rfl)]
            refine opAppXd _ _ rfl (Bk + 1) (.slice ot P.length ct) P f1 HXq t b 1 e4' hcel (by omega) hsq ?_
            intro v' w' hO' hG'
            refine hK _ _ ?_
            clear hK K
            have hs3 : Src w' g o c.length cp a2 z := hs2.row hG' (fun q hq => by have := hblk q hq; omega)
            have hg3 : V0.grownBy w' (some g) := gr_row Hgq.out hG' (fun q hq => by have := hblk q hq; omega)
            have hB3 : w'.heap[Bk]? = some (.cells #[.string nm, .slice ot P.length ct] 32 (0, 0)) := by
              rw [hG'.block Bk (by omega) (fun e => by have := hblk Bk e.symm; omega)]
              exact HBq
            obtain ⟨o2, c2, rfl⟩ := hO'.shape
            have hc3 : w'.cell? ⟨Bk, 1, none⟩ = some (.slice ot P.length ct) := by simp [World.cell?, hB3]
            have hf3 : w'.frozen? ⟨Bk, 1, none⟩ = false := by simp [World.frozen?, hB3]
            have HP2 : Hid (∀ q ∈ P ++ [t], q.size ≤ 15) := by
              intro q hq
              rcases List.mem_append.1 hq with hq | hq
              · exact HP.out q hq
              · simp only [List.mem_cons, List.not_mem_nil, or_false] at hq
                subst hq
                exact hft
            have hP2 : (P ++ [t]).length ≤ P.length + 1 := by simp
            obtain ⟨P2, hPe⟩ : ∃ P2, P ++ [t] = P2 := ⟨_, rfl⟩
            rw [hPe] at HP2 hP2 hO' ⊢
            clear hPe
            have HB4 : Hid ((w'.setCell ⟨Bk, 1, none⟩ (.slice o2 P2.length c2)).heap[Bk]? = some (.cells #[.string nm, .slice o2 P2.length c2] 32 (0, 0))) := by show _ = _; simp [World.setCell, Array.getElem?_modify, hB3]
            have HX4 : Hid (OwnX (Bk + 1) (.slice o2 P2.length c2) P2 (w'.setCell ⟨Bk, 1, none⟩ (.slice o2 P2.length c2))) := row_stay hO' (fun q hq => by
              have := (World.ownsRow.lt hO' q hq).1
              simp [World.setCell, Array.getElem?_modify, show Bk ≠ q by omega])
            have Hs4 := mkHid (hs3.setC (b := Bk) (j := 1) (v := .slice o2 P2.length c2) (by omega))
            have Hg4 := mkHid (gr_setC (b := Bk) (j := 1) (v := .slice o2 P2.length c2) hg3 (by omega))
            clear hO' hG' HXq hcel hs2 hgq hs3 hg3 hB3 HBq HX HB HB1 HP Hgq
            show wpAny _ _ _ _ 2 _ (alAct [_, _, _, _, _, _, _, _, _, _, _, _, _, _, _, _, _, _, _, _, _, _, _, _, _, _, _] x [.slice o2 P2.length c2, _, _, _, _, _, _]) _
            generalize x 27 = y27
            generalize x 28 = y28
            generalize x 29 = y29
            generalize x 30 = y30
            generalize x 31 = y31
            go_simp
            refine wpAny_ready (rs := [6]) (by kernel_rfl) (by simp) ?_
            refine AllReady.cons rfl (fun K hK => ?_) AllReady.nil
            go_simp
            refine hK _ _ ?_
            clear hK K
            go_simp
            refine wpAny_ready (rs := [7]) (by kernel_rfl) (by simp) ?_
            refine AllReady.cons rfl (fun K hK => ?_) AllReady.nil
            go_simp
            refine hK _ _ ?_
            clear hK K
            go_simp
            refine wpAny_done (by kernel_rfl) ?_ _
            go_simp
            go_wp2
            go_roundw
            case rel => exact ⟨j - 1, a2, c2, P2, o2, by go_num, by omega, by omega, HP2, Hs4, Hg4, HB4, HX4⟩
            case measure => simp [Lib.intOf]; omega
          case hstep =>
            intro k2 x L wr i hil hkl hG hi hf
            rcases (show i = 0 ∨ i = 1 ∨ i = 2 ∨ i = 3 ∨ i = 4 by omega) with rfl | rfl | rfl | rfl | rfl
            · clear hi hf
              refine wpOp_step rfl (fun K hK => ?_)
              go_simp
              exact hK _ _ ⟨.pointer (some ⟨Bk, 1, none⟩), by simp [put, alDst], rfl, gr_refl _ _, (hG.still (Below.refl _ _)).mono (by omega)⟩
            · have e0 : x 27 = .pointer (some ⟨Bk, 1, none⟩) := hf 0 (by omega) (ready_dep hi rfl 0 (by kernel_rfl))
              clear hi hf
              have hcel : wr.cell? ⟨Bk, 1, none⟩ = some (.slice ot P.length ct) := gr_cell hG.1 (show Bk ≠ g by omega) HB1.out
              refine wpOp_step rfl (fun K hK => ?_)
              go_simp
              exact hK _ _ ⟨.slice ot P.length ct, by simp [put, alDst, e0], rfl, gr_refl _ _, (hG.still (Below.refl _ _)).mono (by omega)⟩
            · clear hi hf
              refine wpOp_step rfl (fun K hK => ?_)
              go_simp
              exact hK _ _ ⟨.pointer (some ⟨g, 0, none⟩), by simp [put, alDst], rfl, gr_refl _ _, (hG.still (Below.refl _ _)).mono (by omega)⟩
            · have e0 : x 29 = .pointer (some ⟨g, 0, none⟩) := hf 2 (by omega) (ready_dep hi rfl 2 (by kernel_rfl))
              clear hi hf
              obtain ⟨hgr, a1, ha1, hs1⟩ := hG
              have hN := srcKeyE g o c cp a1 z wr hs1 (HCW.out.grown hgr (Nat.le_refl _)) (by omega) hl
              refine wpOp_step rfl (fun K hK => ?_)
              go_simp
              refine hN.mono ?_
              rintro e w2 ⟨t, a2, rfl, ht, ha2, hs2, hg2⟩
              go_simp
              exact hK _ _ ⟨.string t, by simp [put, alDst, e0], ⟨t, rfl, ht⟩, hg2, gr_trans hgr hg2, a2, by omega, hs2⟩
            · have f3 := hf 3 (by omega) (ready_dep hi rfl 3 (by kernel_rfl))
              clear hi hf
              obtain ⟨t, e0, ht⟩ := f3
              have e0' : x 30 = .string t := e0
              clear e0
              refine wpOp_step rfl (fun K hK => ?_)
              go_simp
              have hbb : ∀ cs, Below wr.heap.size wr (wr.alloc (.cells cs 9)) := fun cs => (Below.refl _ _).alloc (Nat.le_refl _) _
              exact hK _ _ ⟨.slice (some ⟨wr.heap.size, 0, none⟩) 1 1, by simp [put, alDst, e0'], ⟨wr.heap.size, t, rfl, hG.1.size, hp_alloc _ _, ht⟩, gr_below (hbb _), (hG.still (hbb _)).mono (by omega)⟩

          · intro k2 j hk2
            simp [Array.getD] at hk2
          · intro j hj hd
            simp [Array.getD] at hd
        · have hAl := HO.out.gr Hgi.out hgl
          obtain ⟨VA, hVA⟩ : ∃ V, wr.alloc (.cells #[.string nm, .slice ot P.length ct] 32) = V := ⟨_, rfl⟩
          have bA : Below wr.heap.size wr VA := by rw [← hVA]; exact (Below.refl _ _).alloc (Nat.le_refl _) _
          have HAl := mkHid (hAl.below bA)
          have hx0 : OwnX (Bk + 1) (.slice ot P.length ct) P VA := HX.out.below bA
          have hRo : ∀ e ∈ ([(⟨nm, P⟩, .slice ot P.length ct)] : List AlE), OwnX w.heap.size e.2 e.1.toF VA := by
            intro e he
            simp only [List.mem_cons, List.not_mem_nil, or_false] at he
            subst he
            exact hx0.baseA (by omega)
          have n2 : VA.heap[wr.heap.size]? = some (.cells #[.string nm, .slice ot P.length ct] 32 (0, 0)) := by rw [← hVA]; exact hp_alloc _ _
          have hcs : ∀ j u, (alCells ([(⟨nm, P⟩, .slice ot P.length ct)] : List AlE))[j]? = some u → VA.cell? ((⟨wr.heap.size, 0, none⟩ : Addr).add j) = some u := by
            intro j u hj
            rw [Addr.add_lit, Nat.zero_add]
            match j, hj with
            | 0, hj => cases hj; simp [World.cell?, n2]
            | 1, hj => cases hj; simp [World.cell?, n2]
          have hsA : w.heap.size ≤ VA.heap.size := Nat.le_trans hwV (Nat.le_trans Hgi.out.size bA.size)
          have HRo := mkHid hRo
          have Hcs := mkHid hcs
          have HVA := mkHid hVA
          have HgA := mkHid (gr_trans (gr_trans Hg.out Hgi.out) (gr_below bA))
          have HsA := mkHid (Hs.out.below bA)
          have HfitP : Hid ((⟨nm, P⟩ : GAlias).fits 30) := ⟨by show nm.size ≤ 30; omega, by show P.length ≤ 30; omega, fun t ht => by have := HP.out t ht; omega⟩
          have HBc := mkHid HB.out
          clear hAl bA hx0 hRo n2 hcs hVA HO HX Hs Hgi Hg HP
          go_wp2_with (first | (refine wpL_load_row rfl 32 _ rfl Bk _ 32 (0, 0) _ rfl HBc.out Tryz.underlying32 rfl (by kernel_rfl) ?_) | (at_builtin; go_must (rw [HVA.out]; refine wp_appA (w := VA) rfl _ _ rfl w.heap.size u3 E rfl HAl.out [(⟨nm, P⟩, .slice ot P.length ct)] ⟨wr.heap.size, 0, none⟩ 1 1 rfl rfl Hcs.out HRo.out (by simp; omega) hsA ?_; intro v' w' hA' hG'; refine Hid.out ?_)))
          have hblk : ∀ q, u3.ownBlock = some q → w.heap.size ≤ q := fun q hq => (World.ownsRow.lt HAl.out.row q hq).1
          have Hs2 := mkHid (HsA.out.row hG' (fun q hq => by have := hblk q hq; omega))
          have Hg2 := mkHid (gr_row HgA.out hG' hblk)
          have HA2 := mkHid hA'
          have HT2 : Hid (∀ e ∈ E ++ [(⟨nm, P⟩, .slice ot P.length ct)], e.1.fits 30) := by
            intro e he
            rcases List.mem_append.1 he with he | he
            · exact HT.out e he
            · simp only [List.mem_cons, List.not_mem_nil, or_false] at he
              subst he
              exact HfitP.out
          have hE2 : (E ++ [((⟨nm, P⟩ : GAlias), Value.slice ot P.length ct)]).length ≤ E.length + 1 := by simp
          clear hA' hG' HAl HRo Hcs HVA HgA HsA HfitP HBc HT HB
          generalize E ++ [((⟨nm, P⟩ : GAlias), Value.slice ot P.length ct)] = E2 at *
          refine mkHid ?_
          go_wp2
          refine ⟨⟨k - 1, a1, E2, by go_num, by omega, by omega, HT2, Hs2, Hg2, HA2⟩, by simp [Lib.intOf]; omega⟩
    · go_wp2
      go_ret
      exact ⟨_, E, a', rfl, by omega, HT.out, HO.out, by omega, Hs.out, Hg.out⟩
end Go.Proofs.YtdjghniinnfncaaGreatDoor
namespace Go.Proofs.YtdjghniinnfncaaGreatDoor
open Go.RowKit Go.Lib Go.Maps
def bgFact (tv : Value) (kk Bk _g B : Nat) (j : Nat) (v : Value) (w : World) : Prop :=
  match j with
  | 0 => v = .pointer (some ⟨Bk, 1, none⟩)
  | 1 => v = tv
  | 2 => v = .int .i64 (kk : Int)
  | 3 => txtM 110 v
  | 4 => txtM 111 v
  | 5 => txtM 121 v
  | 6 => ∃ (b : Nat) (t : ByteArray), v = .slice (some ⟨b, 0, none⟩) 1 1 ∧ B ≤ b ∧ w.heap[b]? = some (.cells #[.string t] 9) ∧ t.size ≤ 121
  | _ => True
def bgDst (j : Nat) : Nat :=
  match j with
  | 0 => 46
  | 1 => 47
  | 2 => 48
  | 3 => 49
  | 4 => 50
  | 5 => 51
  | 6 => 52
  | _ => 999
def bhDst (j : Nat) : Nat :=
  match j with
  | 0 => 63
  | 1 => 64
  | 2 => 65
  | 3 => 66
  | 4 => 67
  | 5 => 68
  | 6 => 69
  | _ => 999
set_option maxRecDepth 20000 in
theorem bgFact.gr {tv : Value} {kk Bk g B : Nat} (hB : g < B) (j : Nat) (v : Value) (w w' : World) (h : bgFact tv kk Bk g B j v w) (hg : w.grownBy w' (some g)) : bgFact tv kk Bk g B j v w' := by
  unfold bgFact at h ⊢
  split
  case h_7 =>
    obtain ⟨b, t, h1, h2, h3, h4⟩ := h
    exact ⟨b, t, h1, h2, by rw [hg.block b (hp_lt h3) (by intro e; have := Option.some.inj e; omega)]; exact h3, h4⟩
  all_goals first
    | exact h
    | trivial
def biFact (v0 tvb tvd : Value) (nb nd : ByteArray) (g B : Nat) (j : Nat) (v : Value) (w : World) : Prop :=
  match j with
  | 0 => v = v0
  | 1 => v = .agg #[.string nb, tvb]
  | 2 => v = .agg #[.string nd, tvd]
  | 3 => ∃ b : Nat, v = .slice (some ⟨b, 0, none⟩) 4 4 ∧ B ≤ b ∧ (w.heap[b]? = some (.cells #[.string ⟨#[98, 105, 103, 50, 64, 97, 46, 101, 120, 97, 109, 112, 108, 101]⟩, .string ⟨#[120, 64, 121]⟩, .string ⟨#[122, 64, 121]⟩, .string ⟨#[119, 64, 121]⟩] 9 (0, 0)))
  | 4 => v = .pointer (some ⟨g, 0, none⟩)
  | 5 => numM 0 4 v
  | 6 => numM 1 5 v
  | 7 => ∃ (b k : Nat), v = .slice (some ⟨b, 0, none⟩) k 4 ∧ 1 ≤ k ∧ k < 5 ∧ B ≤ b ∧ (w.heap[b]? = some (.cells #[.string ⟨#[98, 105, 103, 50, 64, 97, 46, 101, 120, 97, 109, 112, 108, 101]⟩, .string ⟨#[120, 64, 121]⟩, .string ⟨#[122, 64, 121]⟩, .string ⟨#[119, 64, 121]⟩] 9 (0, 0)))
  | 8 => ∃ (b k : Nat), v = .agg #[.string ⟨#[98, 105, 103, 51, 64, 97, 46, 101, 120, 97, 109, 112, 108, 101]⟩, .slice (some ⟨b, 0, none⟩) k 4] ∧ 1 ≤ k ∧ k < 5 ∧ B ≤ b ∧ (w.heap[b]? = some (.cells #[.string ⟨#[98, 105, 103, 50, 64, 97, 46, 101, 120, 97, 109, 112, 108, 101]⟩, .string ⟨#[120, 64, 121]⟩, .string ⟨#[122, 64, 121]⟩, .string ⟨#[119, 64, 121]⟩] 9 (0, 0)))
  | 9 => ∃ (b b3 k : Nat), v = .slice (some ⟨b, 0, none⟩) 3 3 ∧ B ≤ b ∧ w.heap[b]? = some (.cells #[.string nb, tvb, .string nd, tvd, .string ⟨#[98, 105, 103, 51, 64, 97, 46, 101, 120, 97, 109, 112, 108, 101]⟩, .slice (some ⟨b3, 0, none⟩) k 4] 32 (0, 0)) ∧ 1 ≤ k ∧ k < 5 ∧ B ≤ b3 ∧ (w.heap[b3]? = some (.cells #[.string ⟨#[98, 105, 103, 50, 64, 97, 46, 101, 120, 97, 109, 112, 108, 101]⟩, .string ⟨#[120, 64, 121]⟩, .string ⟨#[122, 64, 121]⟩, .string ⟨#[119, 64, 121]⟩] 9 (0, 0)))
  | _ => True
def biDst (j : Nat) : Nat :=
  match j with
  | 0 => 75
  | 1 => 76
  | 2 => 77
  | 3 => 78
  | 4 => 79
  | 5 => 80
  | 6 => 81
  | 7 => 82
  | 8 => 83
  | 9 => 84
  | _ => 999
set_option maxRecDepth 20000 in
theorem biFact.gr {v0 tvb tvd : Value} {nb nd : ByteArray} {g B : Nat} (hB : g < B) (j : Nat) (v : Value) (w w' : World) (h : biFact v0 tvb tvd nb nd g B j v w) (hg : w.grownBy w' (some g)) : biFact v0 tvb tvd nb nd g B j v w' := by
  unfold biFact at h ⊢
  have key : ∀ (b : Nat) (ob : Obj), B ≤ b → w.heap[b]? = some ob → w'.heap[b]? = some ob := fun b ob hb h3 => by rw [hg.block b (hp_lt h3) (by intro e; have := Option.some.inj e; omega)]; exact h3
  split
  case h_4 =>
    obtain ⟨b, h1, h2, h3⟩ := h
    exact ⟨b, h1, h2, key _ _ h2 h3⟩
  case h_8 =>
    obtain ⟨b, k, h1, h2, h3, h4, h5⟩ := h
    exact ⟨b, k, h1, h2, h3, h4, key _ _ h4 h5⟩
  case h_9 =>
    obtain ⟨b, k, h1, h2, h3, h4, h5⟩ := h
    exact ⟨b, k, h1, h2, h3, h4, key _ _ h4 h5⟩
  case h_10 =>
    obtain ⟨b, b3, k, h1, h2, h3, h4, h5, h6, h7⟩ := h
    exact ⟨b, b3, k, h1, h2, key _ _ h2 h3, h4, h5, h6, key _ _ h6 h7⟩
  all_goals first
    | exact h
    | trivial
set_option maxRecDepth 20000 in
theorem opAppA {w : World} {o : Oper} {a : Act} {K : Act → World → Prop} {Q : Exit → Act → World → Prop} (s x : Operand)
    (ho : o.op = .call { callee := .builtin .append, args := #[s, x], argTypes := #[23, 23] })
    (B : Nat) (v : Value) (C : List AlE) (hs : a.eval s = v) (hown : Al B v C w) (R : List AlE) (ad : Addr)
    (n c : Nat) (hx : a.eval x = .slice (some ad) n c) (hn : n = R.length) (hR : ∀ j u, (alCells R)[j]? = some u → w.cell? (ad.add j) = some u) (hRo : ∀ e ∈ R, OwnX B e.2 e.1.toF w) (hlen : C.length + R.length ≤ 10000) (hB : B ≤ w.heap.size)
    (h : ∀ v' w', Al B v' (C ++ R) w' → w.grownBy w' v.ownBlock → K (a.put o.dst v') w') : o.wp Tryz.prog a w K Q := by
  obtain ⟨i0, hi0, hz0, hz1, hz2⟩ := info_parts Tryz.infoGAl
  subst hn
  have hone : ∀ u ∈ alCells R, u.oneCell' = true := by
    intro u hu
    simp only [alCells, List.mem_flatMap] at hu
    obtain ⟨m, hm0, hm⟩ := hu
    obtain ⟨oo, cc, hv⟩ := (hRo m hm0).shape
    simp at hm
    rcases hm with rfl | rfl
    · rfl
    · rw [hv]; rfl
  obtain ⟨v', w', hr, h2, h3, h4, h5⟩ := run_append_own_at (P := Tryz.prog) w B 23 o.type 32 i0 _ 2 40 Tryz.underlying23 hi0 hz0 hz1 hz2 rfl (by decide) v C.length (alCells C) hown.row ad R.length c (alCells R) (alCells_len R) hR hone (by unfold maxLen; omega) (by omega) hB
  unfold Oper.wp execOp
  simp only [ho, resolve, invoke, builtin, Sem.run_bind, Sem.run_pure, Result.andThen_ok, List.map_toArray, List.map_cons, List.map_nil, hs, hx, hr]
  refine h v' w' ⟨?_, ?_⟩ h3
  · rw [alCells_join, List.length_append]
    exact h2
  · intro e he
    have hx0 : OwnX B e.2 e.1.toF w := by
      rcases List.mem_append.1 he with he | he
      · exact hown.own e he
      · exact hRo e he
    exact hx0.keep h3 (own_apartA (show w.ownsRow B 9 1 _ _ _ from hx0) hown.row (by decide))
abbrev rgAct (L M R : List Value) : Act := { tmps := (L ++ M ++ R).toArray, defers := [] }
end Go.Proofs.YtdjghniinnfncaaGreatDoor
