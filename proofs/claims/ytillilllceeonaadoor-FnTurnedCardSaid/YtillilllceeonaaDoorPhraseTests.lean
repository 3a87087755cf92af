
/- A source of draws: entries. -/

/- Plain mathematics of Phrase: lists of bytes alone; no program. -/

/- The bytes of phrases and atoms. -/
import Derived.Test.YtillilllceeonaaDoorEnMem
import Derived.Test.YtillilllceeonaaDoorDraw
import Derived.Lib.SplitLaws
namespace Go.Proofs.YtillilllceeonaaDoor
open Go.RowKit Go.Lib Go.Maps
set_option maxRecDepth 20000 in
theorem GoneBy.mono {W : World} {g cl cp a0 z k k' : Nat} {o : Option Addr} {w : World} (h : GoneBy W g o cl cp a0 z k w) (hk : k ≤ k') : GoneBy W g o cl cp a0 z k' w := by
  obtain ⟨h1, a', h2, h3⟩ := h
  exact ⟨h1, a', by omega, h3⟩
abbrev rgAct (L M R : List Value) : Act := { tmps := (L ++ M ++ R).toArray, defers := [] }
def enFact (tv : Value) (Bk g B : Nat) (j : Nat) (v : Value) (w : World) : Prop :=
  match j with
  | 0 => v = .pointer (some ⟨Bk, 5, none⟩)
  | 1 => v = tv
  | 2 => v = .pointer (some ⟨g, 0, none⟩)
  | 3 => ∃ q : Bx3, v = .agg #[.string q.n, .string q.l, .string q.d] ∧ q.ok
  | 4 => ∃ (b : Nat) (q : Bx3), v = .slice (some ⟨b, 0, none⟩) 1 1 ∧ B ≤ b ∧ w.heap[b]? = some (.cells #[.string q.n, .string q.l, .string q.d] 107) ∧ q.ok
  | _ => True
def enDst (j : Nat) : Nat :=
  match j with
  | 0 => 33
  | 1 => 34
  | 2 => 35
  | 3 => 36
  | 4 => 37
  | _ => 999
set_option maxRecDepth 20000 in
theorem enFact.gr {tv : Value} {Bk g B : Nat} (hB : g < B) (j : Nat) (v : Value) (w w' : World) (h : enFact tv Bk g B j v w) (hg : w.grownBy w' (some g)) : enFact tv Bk g B j v w' := by
  unfold enFact at h ⊢
  split
  case h_5 =>
    obtain ⟨b, t, h1, h2, h3, h4⟩ := h
    exact ⟨b, t, h1, h2, by rw [hg.block b (hp_lt h3) (by intro e; have := Option.some.inj e; omega)]; exact h3, h4⟩
  all_goals first
    | exact h
    | trivial
set_option maxRecDepth 20000 in
set_option maxHeartbeats 8000000 in
theorem srcEntries (g : Nat) (o : Option Addr) (c : List UInt8) (cp a z : Nat) (w : World) (h : Src w g o c.length cp a z) (hc : Code g w o c) (ha : a ≤ 700000000000) (hl : c.length ≤ 1048576) (hz : z ≤ 12) :
    Calls Tryd.prog 47 #[.pointer (some ⟨g, 0, none⟩)] w fun e w' => ∃ (v : Value) (E : List EnE) (a' : Nat), e = .returned v ∧ E.length ≤ 7 ∧ (∀ e ∈ E, e.1.ok) ∧ Ens w.heap.size v E w' ∧ a' ≤ a + 15000 ∧ Src w' g o c.length cp a' z ∧ w.grownBy w' (some g) := by
  have HC : Hid (Code g w o c) := hc
  have hgl := h.lt
  have Hs := mkHid h
  have Hg : Hid (w.grownBy w (some g)) := gr_refl _ _
  clear h hc
  go_enter Tryd.func47, Tryd.ntmps47
  obtain ⟨W1, hW1⟩ : ∃ W, w.alloc (.cells #[] 110) = W := ⟨_, rfl⟩
  have b1 : Below w.heap.size w W1 := by rw [← hW1]; exact (Below.refl _ _).alloc (Nat.le_refl _) _
  have O1 : Ens w.heap.size (.slice (some ⟨w.heap.size, 0, none⟩) 0 0) [] W1 := by rw [← hW1]; exact Ens.made _ w (Nat.le_refl _)
  have Hs0 := mkHid (Hs.out.below b1)
  have Hg0 : Hid (w.grownBy W1 (some g)) := gr_below b1
  have HO1 := mkHid O1
  have HW1 := mkHid hW1
  have c2 := Hs0.out.c2
  have hq3 : (z : Int) / 3 = ((z / 3 : Nat) : Int) := rfl
  have hN := srcN g o c cp a z (4 + ((z / 3 : Nat) : Int)) W1 Hs0.out (HC.out.grown Hg0.out (Nat.le_refl _)) (by omega) hl (by omega) (by omega)
  obtain ⟨z3, hz3⟩ : ∃ q, z / 3 = q := ⟨_, rfl⟩
  rw [hz3] at hN hq3
  have hz4 : z3 ≤ 4 := by omega
  rw [← HW1.out] at c2
  clear O1 b1 hW1 Hs Hg hz3
  go_wp2_with fail
  rw [HW1.out]
  refine hN.mono ?_
  rintro e w1 ⟨v, rfl, hv, hs1, hg1⟩
  have Hs1 := mkHid hs1
  have Hg1 := mkHid (gr_trans Hg0.out hg1)
  have HO2 := mkHid (HO1.out.gr hg1 hgl)
  clear hN hs1 hg1 Hs0 Hg0 HO1 HW1 c2 hq3
  go_wp2
  go_loopw [3, 4] (fun ov iv wr => ∃ (k a' : Nat) (E : List EnE), iv = .int .i64 k ∧ E.length + k ≤ 7 ∧ a' + 2000 * k ≤ a + 14001 ∧ Hid (∀ e ∈ E, e.1.ok) ∧ Hid (Src wr g o c.length cp a' z) ∧ Hid (w.grownBy wr (some g)) ∧ Hid (Ens w.heap.size ov E wr)) (fun _ iv _ => (Lib.intOf iv).toNat)
  case atStart => exact ⟨v, a + 1, [], by go_num, by simp; omega, by omega, fun t ht => by simp at ht, Hs1, Hg1, HO2⟩
  case round =>
    clear Hs1 Hg1 HO2
    obtain ⟨k, a', E, rfl, hEk, hak, HT, Hs, Hg, HO⟩ := hrel
    by_cases hk : 0 < k
    · obtain ⟨V0, hV0⟩ : ∃ V, V = wr := ⟨_, rfl⟩
      subst hV0
      have hgV : g < V0.heap.size := Hs.out.lt
      have hwV : w.heap.size ≤ V0.heap.size := Hg.out.size
      have HC0 : Hid (Code g V0 o c) := HC.out.grown Hg.out (Nat.le_refl _)
      have hR2 := hp_alloc V0 (.cells #[.bool false, .string ⟨#[]⟩, .string ⟨#[]⟩, .string ⟨#[]⟩, .string ⟨#[]⟩, .slice none 0 0] 110)
      go_wp2_with (refine wpL_store_row rfl 110 _ _ rfl V0.heap.size _ rfl rfl 110 _ hR2 (by kernel_rfl) rfl (by simp [Value.oneCell']) ?_; refine Hid.out ?_)
      obtain ⟨V5, hV5⟩ : ∃ V, (V0.alloc (.cells #[.bool false, .string ⟨#[]⟩, .string ⟨#[]⟩, .string ⟨#[]⟩, .string ⟨#[]⟩, .slice none 0 0] 110)).setRow V0.heap.size #[.bool false, .string ⟨#[]⟩, .string ⟨#[]⟩, .string ⟨#[]⟩, .string ⟨#[]⟩, .slice none 0 0] = V := ⟨_, rfl⟩
      have hb5 := below_row hV5
      have HB5 : Hid (V5.heap[V0.heap.size]? = some (.cells #[.bool false, .string ⟨#[]⟩, .string ⟨#[]⟩, .string ⟨#[]⟩, .string ⟨#[]⟩, .slice none 0 0] 110 (0, 0))) := by rw [← hV5]; exact setRow_heap _ _ _ _ _ _ hR2
      rw [hV5]
      obtain ⟨Bk, hBk⟩ : ∃ Bk, Bk = V0.heap.size := ⟨_, rfl⟩
      rw [← hBk] at HB5 ⊢
      have hBV : V0.heap.size ≤ Bk := by omega
      have hBk5 : Bk < V5.heap.size := hp_lt HB5.out
      have Hs5 := mkHid (Hs.out.below hb5)
      have Hg5 : Hid (V0.grownBy V5 (some g)) := gr_below hb5
      clear hR2 hV5 hBk hb5 Hs
      refine mkHid ?_
      have hN207 := srcOne g o c cp a' z 4 V5 Hs5.out (HC0.out.grown Hg5.out (Nat.le_refl _)) (by omega) hl (by omega) (by omega)
      go_wp2_with fail
      refine hN207.mono ?_
      rintro e w202 ⟨b201, rfl, hs205, hg206⟩
      have Hs203 := mkHid hs205
      have Hg204 := mkHid (gr_trans Hg5.out hg206)
      have HB208 : Hid (w202.heap[Bk]? = some (.cells #[.bool false, .string ⟨#[]⟩, .string ⟨#[]⟩, .string ⟨#[]⟩, .string ⟨#[]⟩, .slice none 0 0] 110 (0, 0))) := (hg206.block Bk (hp_lt HB5.out) (by intro e; have := Option.some.inj e; omega)).trans HB5.out
      clear HB5
      clear hN207 hs205 hg206 Hs5 Hg5
      cases b201 with
      | true =>
        have hc0 : w202.cell? ⟨Bk, 0, none⟩ = some (.bool false) := by simp [World.cell?, HB208.out]
        have hf0 : w202.frozen? ⟨Bk, 0, none⟩ = false := by simp [World.frozen?, HB208.out]
        obtain ⟨Va, hVa⟩ : ∃ V, w202.setCell ⟨Bk, 0, none⟩ (.bool true) = V := ⟨_, rfl⟩
        have HBa : Hid (Va.heap[Bk]? = some (.cells #[.bool true, .string ⟨#[]⟩, .string ⟨#[]⟩, .string ⟨#[]⟩, .string ⟨#[]⟩, .slice none 0 0] 110 (0, 0))) := by show _ = _; rw [← hVa]; simp [World.setCell, Array.getElem?_modify, HB208.out]
        have Hsa : Hid (Src Va g o c.length cp (a' + 1) z) := by rw [← hVa]; exact Hs203.out.setC (by omega)
        have Hga : Hid (V0.grownBy Va (some g)) := by rw [← hVa]; exact gr_setC Hg204.out hBV
        have HVa := mkHid hVa
        clear hVa HB208 Hs203 Hg204
        have hN216 := srcWord g o c cp (a' + 1) z Va Hsa.out (HC0.out.grown Hga.out (Nat.le_refl _)) (by omega) hl
        go_wp2_with fail
        rw [HVa.out]
        clear hc0 hf0 HVa
        refine hN216.mono ?_
        rintro e w211 ⟨t209, a210, rfl, hzt209, ha210, hs214, hg215⟩
        have Hs212 := mkHid hs214
        have Hg213 := mkHid (gr_trans Hga.out hg215)
        have HB217 : Hid (w211.heap[Bk]? = some (.cells #[.bool true, .string ⟨#[]⟩, .string ⟨#[]⟩, .string ⟨#[]⟩, .string ⟨#[]⟩, .slice none 0 0] 110 (0, 0))) := (hg215.block Bk (hp_lt HBa.out) (by intro e; have := Option.some.inj e; omega)).trans HBa.out
        clear HBa
        clear hN216 hs214 hg215 Hsa Hga
        have hc1 : w211.cell? ⟨Bk, 1, none⟩ = some (.string ⟨#[]⟩) := by simp [World.cell?, HB217.out]
        have hf1 : w211.frozen? ⟨Bk, 1, none⟩ = false := by simp [World.frozen?, HB217.out]
        obtain ⟨Vb, hVb⟩ : ∃ V, w211.setCell ⟨Bk, 1, none⟩ (.string t209) = V := ⟨_, rfl⟩
        have HBb : Hid (Vb.heap[Bk]? = some (.cells #[.bool true, .string t209, .string ⟨#[]⟩, .string ⟨#[]⟩, .string ⟨#[]⟩, .slice none 0 0] 110 (0, 0))) := by show _ = _; rw [← hVb]; simp [World.setCell, Array.getElem?_modify, HB217.out]
        have Hsb : Hid (Src Vb g o c.length cp a210 z) := by rw [← hVb]; exact Hs212.out.setC (by omega)
        have Hgb : Hid (V0.grownBy Vb (some g)) := by rw [← hVb]; exact gr_setC Hg213.out hBV
        have HVb := mkHid hVb
        clear hVb HB217 Hs212 Hg213
        have hN224 := srcN g o c cp a210 z 4 Vb Hsb.out (HC0.out.grown Hgb.out (Nat.le_refl _)) (by omega) hl (by omega) (by omega)
        go_wp2_with fail
        rw [HVb.out]
        clear hc1 hf1 HVb
        refine hN224.mono ?_
        rintro e w219 ⟨v218, rfl, hv218, hs222, hg223⟩
        have Hs220 := mkHid hs222
        have Hg221 := mkHid (gr_trans Hgb.out hg223)
        have HB225 : Hid (w219.heap[Bk]? = some (.cells #[.bool true, .string t209, .string ⟨#[]⟩, .string ⟨#[]⟩, .string ⟨#[]⟩, .slice none 0 0] 110 (0, 0))) := (hg223.block Bk (hp_lt HBb.out) (by intro e; have := Option.some.inj e; omega)).trans HBb.out
        clear HBb
        clear hN224 hs222 hg223 Hsb Hgb
        go_wp2
        go_loopw [6] (fun jv wr => ∃ (j a1 ct : Nat) (P : List Bx3) (ot : Option Addr), jv = .int .i64 j ∧ P.length + j ≤ 3 ∧ a1 + 500 * j ≤ a' + 1700 ∧ Hid (∀ t ∈ P, t.ok) ∧ Hid (Src wr g o c.length cp a1 z) ∧ Hid (V0.grownBy wr (some g)) ∧ Hid (wr.heap[Bk]? = some (.cells #[.bool true, .string t209, .string ⟨#[]⟩, .string ⟨#[]⟩, .string ⟨#[]⟩, .slice ot P.length ct] 110 (0, 0))) ∧ Hid (OwnB (Bk + 1) (.slice ot P.length ct) P wr)) (fun jv _ => (Lib.intOf jv).toNat)
        case atStart => exact ⟨v218, (a210 + 1), 0, [], none, by go_num, by simp; omega, by omega, fun t ht => by simp at ht, Hs220, Hg221, HB225, OwnB.nil _ _⟩
        case round =>
          clear Hs220 Hg221 HB225
          obtain ⟨j, a1, ct, P, ot, rfl, hPj, haj, HP, Hs, Hgi, HB, HX⟩ := hrel
          by_cases hj : 0 < j
          · have HCW : Hid (Code g wr o c) := HC0.out.grown Hgi.out (Nat.le_refl _)
            have hgr0 : g < wr.heap.size := Hs.out.lt
            have hBw : Bk < wr.heap.size := hp_lt HB.out
            have HB1 : Hid (wr.cell? ⟨Bk, 5, none⟩ = some (.slice ot P.length ct)) := by show _ = _; simp [World.cell?, HB.out]
            have HG : Hid (GoneBy wr g o c.length cp a1 z (70 * 0) wr.drew) := ⟨gr_below (Below.refl _ _).drew, a1, by omega, Hs.out.below (Below.refl _ _).drew⟩
            go_wp2
            obtain ⟨W0, hW0⟩ : ∃ V, V = wr := ⟨_, rfl⟩
            subst hW0
            refine wp_region_any (by kernel_rfl) ?_
            refine wpAny_phase 5 3 #[true, true, true, true, true, false, false, false] enDst (fun x => rgAct [_, _, _, _, _, _, _, _, _, _, _, _, _, _, _, _, _, _, _, _, _, _, _, _, _, _, _, _, _, _, _, _, _] [x 33, x 34, x 35, x 36, x 37] [_, _, _, _, _, _, _, _, _, _]) (enFact (.slice ot P.length ct) Bk g W0.heap.size) (fun k w => GoneBy W0 g o c.length cp a1 z (70 * k) w) (fun w w' => w.grownBy w' (some g)) rfl rfl (by decide) rfl (by kernel_rfl) (by kernel_rfl) ?_ (enFact.gr hgr0) ?hend ?hstep _ _ 0 (fun j => match j with | 33 => u33 | 34 => u34 | 35 => u35 | 36 => u36 | 37 => u37 | _ => undef) _ rfl rfl rfl (by intro j hj; simp [Array.getD]) ?_ HG.out ?_
            · intro i j hi hj hne
              have e1 : ∀ q, q < 5 → ∀ r, r < 5 → q ≠ r → enDst q ≠ enDst r := by decide
              exact e1 j hj i hi hne
            case hend =>
              intro x wq hG hf
              have f1 : x 34 = .slice ot P.length ct := hf 1 (by decide)
              obtain ⟨b, q, e4, hb, hbk, hft⟩ := hf 4 (by decide)
              have e4' : x 37 = .slice (some ⟨b, 0, none⟩) 1 1 := e4
              obtain ⟨hgq, a2, ha2, hs2⟩ := hG
              have HXq : OwnB (Bk + 1) (.slice ot P.length ct) P wq := HX.out.same (Same.gr hgq (by omega) (Nat.le_refl _))
              have hsq : Bk + 1 ≤ wq.heap.size := Nat.le_trans hBw hgq.size
              have hcel : ∀ j u, (bxCells [q])[j]? = some u → wq.cell? ((⟨b, 0, none⟩ : Addr).add j) = some u := by
                intro j u hj
                rw [Addr.add_lit, Nat.zero_add]
                match j, hj with
                | 0, hj => cases hj; simp [World.cell?, hbk]
                | 1, hj => cases hj; simp [World.cell?, hbk]
                | 2, hj => cases hj; simp [World.cell?, hbk]
              have HBq : wq.heap[Bk]? = some (.cells #[.bool true, .string t209, .string ⟨#[]⟩, .string ⟨#[]⟩, .string ⟨#[]⟩, .slice ot P.length ct] 110 (0, 0)) := by
                rw [hgq.block Bk hBw (by intro e; have := Option.some.inj e; omega)]
                exact HB.out
              have hblk : ∀ q, (Value.slice ot P.length ct).ownBlock = some q → Bk + 1 ≤ q := fun q hq => (World.ownsRow.lt HX.out q hq).1
              have Hgq := mkHid (gr_trans Hgi.out hgq)
              clear hf e4 hbk
              refine wpAny_ready (rs := [5]) (by kernel_rfl) (by simp) ?_
              refine AllReady.cons rfl (fun K hK => ?_) AllReady.nil
              rw [if_pos (by rfl)]
              refine opAppB _ _ rfl (Bk + 1) (.slice ot P.length ct) P f1 HXq [q] ⟨b, 0, none⟩ 1 1 e4' rfl hcel (by simp; omega) hsq ?_
              intro v' w' hO' hG'
              refine hK _ _ ?_
              clear hK K
              have hs3 : Src w' g o c.length cp a2 z := hs2.row hG' (fun q hq => by have := hblk q hq; omega)
              have hg3 : V0.grownBy w' (some g) := gr_row Hgq.out hG' (fun q hq => by have := hblk q hq; omega)
              have hB3 : w'.heap[Bk]? = some (.cells #[.bool true, .string t209, .string ⟨#[]⟩, .string ⟨#[]⟩, .string ⟨#[]⟩, .slice ot P.length ct] 110 (0, 0)) := by
                rw [hG'.block Bk (by omega) (fun e => by have := hblk Bk e.symm; omega)]
                exact HBq
              obtain ⟨o2, c2, rfl⟩ := hO'.shape
              have hc3 : w'.cell? ⟨Bk, 5, none⟩ = some (.slice ot P.length ct) := by simp [World.cell?, hB3]
              have hf3 : w'.frozen? ⟨Bk, 5, none⟩ = false := by simp [World.frozen?, hB3]
              have HP2 : Hid (∀ q0 ∈ P ++ [q], q0.ok) := by
                intro q0 hq
                rcases List.mem_append.1 hq with hq | hq
                · exact HP.out q0 hq
                · simp only [List.mem_cons, List.not_mem_nil, or_false] at hq
                  subst hq
                  exact hft
              have hP2 : (P ++ [q]).length ≤ P.length + 1 := by simp
              obtain ⟨P2, hPe⟩ : ∃ P2, P ++ [q] = P2 := ⟨_, rfl⟩
              rw [hPe] at HP2 hP2 hO' ⊢
              clear hPe
              have HB4 : Hid ((w'.setCell ⟨Bk, 5, none⟩ (.slice o2 P2.length c2)).heap[Bk]? = some (.cells #[.bool true, .string t209, .string ⟨#[]⟩, .string ⟨#[]⟩, .string ⟨#[]⟩, .slice o2 P2.length c2] 110 (0, 0))) := by show _ = _; simp [World.setCell, Array.getElem?_modify, hB3]
              have HX4 : Hid (OwnB (Bk + 1) (.slice o2 P2.length c2) P2 (w'.setCell ⟨Bk, 5, none⟩ (.slice o2 P2.length c2))) := row_stay hO' (fun q hq => by
                have := (World.ownsRow.lt hO' q hq).1
                simp [World.setCell, Array.getElem?_modify, show Bk ≠ q by omega])
              have Hs4 := mkHid (hs3.setC (b := Bk) (j := 5) (v := .slice o2 P2.length c2) (by omega))
              have Hg4 := mkHid (gr_setC (b := Bk) (j := 5) (v := .slice o2 P2.length c2) hg3 (by omega))
              clear hO' hG' HXq hcel hs2 hgq hs3 hg3 hB3 HBq HX HB HB1 HP Hgq HG
              show wpAny _ _ _ _ 2 _ (rgAct [_, _, _, _, _, _, _, _, _, _, _, _, _, _, _, _, _, _, _, _, _, _, _, _, _, _, _, _, _, _, _, _, _] [x 33, x 34, x 35, x 36, x 37] (.slice o2 P2.length c2 :: [_, _, _, _, _, _, _, _, _])) _
              generalize x 33 = y33
              generalize x 34 = y34
              generalize x 35 = y35
              generalize x 36 = y36
              generalize x 37 = y37
              go_simp
              refine wpAny_ready (rs := [6]) (by kernel_rfl) (by simp) ?_
              refine AllReady.cons rfl (fun K hK => ?_) AllReady.nil
              go_simp
              refine hK _ _ ?_
              clear hK K
              go_simp
              refine wpAny_ready (rs := [7]) (by kernel_rfl) (by simp) ?_
              refine AllReady.cons rfl (fun K hK => ?_) AllReady.nil
              go_simp
              refine hK _ _ ?_
              clear hK K
              go_simp
              refine wpAny_done (by kernel_rfl) ?_ _
              go_simp
              go_wp2
              go_roundw
              case rel => exact ⟨j - 1, a2, c2, P2, o2, by go_num, by omega, by omega, HP2, Hs4, Hg4, HB4, HX4⟩
              case measure => simp [Lib.intOf]; omega
            case hstep =>
              intro k2 x L wr i hil hkl hG hi hf
              rcases (show i = 0 ∨ i = 1 ∨ i = 2 ∨ i = 3 ∨ i = 4 by omega) with rfl | rfl | rfl | rfl | rfl
              · clear hi hf
                refine wpOp_step rfl (fun K hK => ?_)
                go_simp
                exact hK _ _ ⟨.pointer (some ⟨Bk, 5, none⟩), by simp [put, enDst], rfl, gr_refl _ _, (hG.still (Below.refl _ _)).mono (by omega)⟩
              · have e0 : x 33 = .pointer (some ⟨Bk, 5, none⟩) := hf 0 (by omega) (ready_dep hi rfl 0 (by kernel_rfl))
                clear hi hf
                have hcel : wr.cell? ⟨Bk, 5, none⟩ = some (.slice ot P.length ct) := gr_cell hG.1 (show Bk ≠ g by omega) HB1.out
                refine wpOp_step rfl (fun K hK => ?_)
                go_simp
                exact hK _ _ ⟨.slice ot P.length ct, by simp [put, enDst, e0], rfl, gr_refl _ _, (hG.still (Below.refl _ _)).mono (by omega)⟩
              · clear hi hf
                refine wpOp_step rfl (fun K hK => ?_)
                go_simp
                exact hK _ _ ⟨.pointer (some ⟨g, 0, none⟩), by simp [put, enDst], rfl, gr_refl _ _, (hG.still (Below.refl _ _)).mono (by omega)⟩
              · have e0 : x 35 = .pointer (some ⟨g, 0, none⟩) := hf 2 (by omega) (ready_dep hi rfl 2 (by kernel_rfl))
                clear hi hf
                obtain ⟨hgr, a1, ha1, hs1⟩ := hG
                have hN := srcBox g o c cp a1 z wr hs1 (HCW.out.grown hgr (Nat.le_refl _)) (by omega) hl
                refine wpOp_step rfl (fun K hK => ?_)
                go_simp
                refine hN.mono ?_
                rintro e w2 ⟨n, l, d, a2, rfl, hz, ha2, hs2, hg2⟩
                go_simp
                exact hK _ _ ⟨.agg #[.string n, .string l, .string d], by simp [put, enDst, e0], ⟨⟨n, l, d⟩, rfl, hz⟩, hg2, gr_trans hgr hg2, a2, by omega, hs2⟩
              · have f3 := hf 3 (by omega) (ready_dep hi rfl 3 (by kernel_rfl))
                clear hi hf
                obtain ⟨q, e0, hz⟩ := f3
                have e0' : x 36 = .agg #[.string q.n, .string q.l, .string q.d] := e0
                clear e0
                refine wpOp_step rfl (fun K hK => ?_)
                go_simp
                have hbb : ∀ cs, Below wr.heap.size wr (wr.alloc (.cells cs 107)) := fun cs => (Below.refl _ _).alloc (Nat.le_refl _) _
                exact hK _ _ ⟨.slice (some ⟨wr.heap.size, 0, none⟩) 1 1, by simp [put, enDst, e0'], ⟨wr.heap.size, q, rfl, hG.1.size, hp_alloc _ _, hz⟩, gr_below (hbb _), (hG.still (hbb _)).mono (by omega)⟩
            · intro k2 j hk2
              simp [Array.getD] at hk2
            · intro j hj hd
              simp [Array.getD] at hd
          · skip
            have hAl := HO.out.gr Hgi.out hgl
            obtain ⟨VA, hVA⟩ : ∃ V, wr.alloc (.cells #[.bool true, .string t209, .string ⟨#[]⟩, .string ⟨#[]⟩, .string ⟨#[]⟩, .slice ot P.length ct] 110) = V := ⟨_, rfl⟩
            have bA : Below wr.heap.size wr VA := by rw [← hVA]; exact (Below.refl _ _).alloc (Nat.le_refl _) _
            have HAl := mkHid (hAl.below bA)
            have hx0 : OwnB (Bk + 1) (.slice ot P.length ct) P VA := OwnB.below (w := wr) HX.out bA
            obtain ⟨q9, hq9⟩ : ∃ q : EnE, q = (⟨true, t209, ⟨#[]⟩, ⟨#[]⟩, ⟨#[]⟩, P⟩, .slice ot P.length ct) := ⟨_, rfl⟩
            have HRo : Hid (∀ e ∈ [q9], OwnB w.heap.size e.2 e.1.mem VA) := by
              intro e he
              simp only [List.mem_cons, List.not_mem_nil, or_false] at he
              subst he
              rw [hq9]
              exact hx0.base (by omega)
            have n2 : VA.heap[wr.heap.size]? = some (.cells #[.bool true, .string t209, .string ⟨#[]⟩, .string ⟨#[]⟩, .string ⟨#[]⟩, .slice ot P.length ct] 110 (0, 0)) := by have h9 := hp_alloc wr (.cells #[.bool true, .string t209, .string ⟨#[]⟩, .string ⟨#[]⟩, .string ⟨#[]⟩, .slice ot P.length ct] 110); rw [hVA] at h9; first | exact h9 | simpa using h9
            have Hcs : Hid (∀ j u, (enCells [q9])[j]? = some u → VA.cell? ((⟨wr.heap.size, 0, none⟩ : Addr).add j) = some u) := by
              intro j u hj
              rw [Addr.add_lit, Nat.zero_add]
              rw [hq9] at hj
              match j, hj with
              | 0, hj => cases hj; simp [World.cell?, n2]
              | 1, hj => cases hj; simp [World.cell?, n2]
              | 2, hj => cases hj; simp [World.cell?, n2]
              | 3, hj => cases hj; simp [World.cell?, n2]
              | 4, hj => cases hj; simp [World.cell?, n2]
              | 5, hj => cases hj; simp [World.cell?, n2]
            have hsA : w.heap.size ≤ VA.heap.size := Nat.le_trans hwV (Nat.le_trans Hgi.out.size bA.size)
            have HVA := mkHid hVA
            have HgA := mkHid (gr_trans (gr_trans Hg.out Hgi.out) (gr_below bA))
            have HsA := mkHid (Hs.out.below bA)
            have Hok : Hid (q9.1.ok) := by
              rw [hq9]
              exact ⟨by show ByteArray.size t209 ≤ 20; omega, ⟨by show ByteArray.size ⟨#[]⟩ ≤ 20; decide, by show ByteArray.size ⟨#[]⟩ ≤ 20; decide, by show ByteArray.size ⟨#[]⟩ ≤ 20; decide⟩, by show P.length ≤ 3; omega, HP.out⟩
            have HBc := mkHid HB.out
            clear hAl bA hx0 n2 hVA hq9 HO
            go_wp2_with (first | (refine wpL_load_row rfl 110 _ rfl Bk _ 110 (0, 0) _ rfl HBc.out Tryd.underlying110 rfl (by kernel_rfl) ?_) | (at_builtin; go_must (rw [HVA.out]; refine wp_appEn (w := VA) rfl _ _ rfl w.heap.size u3 E rfl HAl.out [q9] ⟨wr.heap.size, 0, none⟩ 1 1 rfl rfl Hcs.out HRo.out (by simp; omega) hsA ?_; intro v' w' hA' hG'; refine Hid.out ?_)))
            have hblk : ∀ q, u3.ownBlock = some q → w.heap.size ≤ q := fun q hq => (World.ownsRow.lt HAl.out.row q hq).1
            have Hs2 := mkHid (HsA.out.row hG' (fun q hq => by have := hblk q hq; omega))
            have Hg2 := mkHid (gr_row HgA.out hG' hblk)
            have HA2 := mkHid hA'
            have HT2 : Hid (∀ e ∈ E ++ [q9], e.1.ok) := by
              intro e he
              rcases List.mem_append.1 he with he | he
              · exact HT.out e he
              · simp only [List.mem_cons, List.not_mem_nil, or_false] at he
                subst he
                exact Hok.out
            have hE2 : (E ++ [q9]).length ≤ E.length + 1 := by simp
            clear hA' hG' HAl HRo Hcs HVA HgA HsA Hok HBc HT
            generalize E ++ [q9] = E2 at *
            refine mkHid ?_
            go_wp2
            refine ⟨⟨k - 1, a1, E2, by go_num, by omega, by omega, HT2, Hs2, Hg2, HA2⟩, by simp [Lib.intOf]; omega⟩
      | false =>
        have hN214 := srcBox g o c cp (a' + 1) z w202 Hs203.out (HC0.out.grown Hg204.out (Nat.le_refl _)) (by omega) hl
        go_wp2_with fail
        refine hN214.mono ?_
        rintro e w209 ⟨bn, bl, bd, a9, rfl, hz9, ha9, hs212, hg213⟩
        have Hs210 := mkHid hs212
        have Hg211 := mkHid (gr_trans Hg204.out hg213)
        have HB215 : Hid (w209.heap[Bk]? = some (.cells #[.bool false, .string ⟨#[]⟩, .string ⟨#[]⟩, .string ⟨#[]⟩, .string ⟨#[]⟩, .slice none 0 0] 110 (0, 0))) := (hg213.block Bk (hp_lt HB208.out) (by intro e; have := Option.some.inj e; omega)).trans HB208.out
        clear HB208
        clear hN214 hs212 hg213 Hs203 Hg204
        have hc2 : w209.cell? ⟨Bk, 2, none⟩ = some (.string ⟨#[]⟩) := by simp [World.cell?, HB215.out]
        have hc3 : w209.cell? ⟨Bk, 3, none⟩ = some (.string ⟨#[]⟩) := by simp [World.cell?, HB215.out]
        have hc4 : w209.cell? ⟨Bk, 4, none⟩ = some (.string ⟨#[]⟩) := by simp [World.cell?, HB215.out]
        have hf2 : w209.frozen? ⟨Bk, 2, none⟩ = false := by simp [World.frozen?, HB215.out]
        have hf3 : w209.frozen? ⟨Bk, 3, none⟩ = false := by simp [World.frozen?, HB215.out]
        have hf4 : w209.frozen? ⟨Bk, 4, none⟩ = false := by simp [World.frozen?, HB215.out]
        have hbx : ∃ q : Bx3, q = ⟨bn, bl, bd⟩ := ⟨_, rfl⟩
        have HBz : Hid ((((w209.setCell ⟨Bk, 2, none⟩ (.string bn)).setCell ⟨Bk, 3, none⟩ (.string bl)).setCell ⟨Bk, 4, none⟩ (.string bd)).heap[Bk]? = some (.cells #[.bool false, .string ⟨#[]⟩, .string bn, .string bl, .string bd, .slice none 0 0] 110 (0, 0))) := by show _ = _; simp [World.setCell, Array.getElem?_modify, HB215.out]
        have Hsz : Hid (Src (((w209.setCell ⟨Bk, 2, none⟩ (.string bn)).setCell ⟨Bk, 3, none⟩ (.string bl)).setCell ⟨Bk, 4, none⟩ (.string bd)) g o c.length cp a9 z) := ((Hs210.out.setC (by omega)).setC (by omega)).setC (by omega)
        have Hgz : Hid (V0.grownBy (((w209.setCell ⟨Bk, 2, none⟩ (.string bn)).setCell ⟨Bk, 3, none⟩ (.string bl)).setCell ⟨Bk, 4, none⟩ (.string bd)) (some g)) := gr_setC (gr_setC (gr_setC Hg211.out hBV) hBV) hBV
        clear hbx
        have hAl := HO.out.gr Hgz.out hgl
        obtain ⟨VA, hVA⟩ : ∃ V, (((w209.setCell ⟨Bk, 2, none⟩ (.string bn)).setCell ⟨Bk, 3, none⟩ (.string bl)).setCell ⟨Bk, 4, none⟩ (.string bd)).alloc (.cells #[.bool false, .string ⟨#[]⟩, .string bn, .string bl, .string bd, .slice none 0 0] 110) = V := ⟨_, rfl⟩
        have bA : Below (((w209.setCell ⟨Bk, 2, none⟩ (.string bn)).setCell ⟨Bk, 3, none⟩ (.string bl)).setCell ⟨Bk, 4, none⟩ (.string bd)).heap.size (((w209.setCell ⟨Bk, 2, none⟩ (.string bn)).setCell ⟨Bk, 3, none⟩ (.string bl)).setCell ⟨Bk, 4, none⟩ (.string bd)) VA := by rw [← hVA]; exact (Below.refl _ _).alloc (Nat.le_refl _) _
        have HAl := mkHid (hAl.below bA)
        have hx0 : OwnB (Bk + 1) (.slice none 0 0) [] VA := OwnB.below (w := (((w209.setCell ⟨Bk, 2, none⟩ (.string bn)).setCell ⟨Bk, 3, none⟩ (.string bl)).setCell ⟨Bk, 4, none⟩ (.string bd))) (OwnB.nil _ _) bA
        obtain ⟨q9, hq9⟩ : ∃ q : EnE, q = (⟨false, ⟨#[]⟩, bn, bl, bd, []⟩, .slice none 0 0) := ⟨_, rfl⟩
        have HRo : Hid (∀ e ∈ [q9], OwnB w.heap.size e.2 e.1.mem VA) := by
          intro e he
          simp only [List.mem_cons, List.not_mem_nil, or_false] at he
          subst he
          rw [hq9]
          exact hx0.base (by omega)
        have n2 : VA.heap[w209.heap.size]? = some (.cells #[.bool false, .string ⟨#[]⟩, .string bn, .string bl, .string bd, .slice none 0 0] 110 (0, 0)) := by have h9 := hp_alloc (((w209.setCell ⟨Bk, 2, none⟩ (.string bn)).setCell ⟨Bk, 3, none⟩ (.string bl)).setCell ⟨Bk, 4, none⟩ (.string bd)) (.cells #[.bool false, .string ⟨#[]⟩, .string bn, .string bl, .string bd, .slice none 0 0] 110); rw [hVA] at h9; first | exact h9 | simpa using h9
        have Hcs : Hid (∀ j u, (enCells [q9])[j]? = some u → VA.cell? ((⟨w209.heap.size, 0, none⟩ : Addr).add j) = some u) := by
          intro j u hj
          rw [Addr.add_lit, Nat.zero_add]
          rw [hq9] at hj
          match j, hj with
          | 0, hj => cases hj; simp [World.cell?, n2]
          | 1, hj => cases hj; simp [World.cell?, n2]
          | 2, hj => cases hj; simp [World.cell?, n2]
          | 3, hj => cases hj; simp [World.cell?, n2]
          | 4, hj => cases hj; simp [World.cell?, n2]
          | 5, hj => cases hj; simp [World.cell?, n2]
        have hsA : w.heap.size ≤ VA.heap.size := Nat.le_trans hwV (Nat.le_trans Hgz.out.size bA.size)
        have HVA := mkHid hVA
        have HgA := mkHid (gr_trans (gr_trans Hg.out Hgz.out) (gr_below bA))
        have HsA := mkHid (Hsz.out.below bA)
        have Hok : Hid (q9.1.ok) := by
          rw [hq9]
          exact ⟨by show ByteArray.size ⟨#[]⟩ ≤ 20; decide, hz9, Nat.zero_le _, fun b hb => by cases hb⟩
        have HBc := mkHid HBz.out
        clear hAl bA hx0 n2 hVA hq9 HO
        go_wp2_with (first | (refine wpL_load_row rfl 110 _ rfl Bk _ 110 (0, 0) _ rfl HBc.out Tryd.underlying110 rfl (by kernel_rfl) ?_) | (at_builtin; go_must (rw [HVA.out]; refine wp_appEn (w := VA) rfl _ _ rfl w.heap.size u3 E rfl HAl.out [q9] ⟨w209.heap.size, 0, none⟩ 1 1 rfl rfl Hcs.out HRo.out (by simp; omega) hsA ?_; intro v' w' hA' hG'; refine Hid.out ?_)))
        have hblk : ∀ q, u3.ownBlock = some q → w.heap.size ≤ q := fun q hq => (World.ownsRow.lt HAl.out.row q hq).1
        have Hs2 := mkHid (HsA.out.row hG' (fun q hq => by have := hblk q hq; omega))
        have Hg2 := mkHid (gr_row HgA.out hG' hblk)
        have HA2 := mkHid hA'
        have HT2 : Hid (∀ e ∈ E ++ [q9], e.1.ok) := by
          intro e he
          rcases List.mem_append.1 he with he | he
          · exact HT.out e he
          · simp only [List.mem_cons, List.not_mem_nil, or_false] at he
            subst he
            exact Hok.out
        have hE2 : (E ++ [q9]).length ≤ E.length + 1 := by simp
        clear hA' hG' HAl HRo Hcs HVA HgA HsA Hok HBc HT
        generalize E ++ [q9] = E2 at *
        refine mkHid ?_
        go_wp2
        refine ⟨⟨k - 1, a9, E2, by go_num, by omega, by omega, HT2, Hs2, Hg2, HA2⟩, by simp [Lib.intOf]; omega⟩
    · go_wp2
      go_ret
      exact ⟨_, E, a', rfl, by omega, HT.out, HO.out, by omega, Hs.out, Hg.out⟩
end Go.Proofs.YtillilllceeonaaDoor
namespace Go.Proofs.YtillilllceeonaaDoor
open Go.Lib
namespace Pl
/-- A byte that may stand in a phrase. -/
def tb (c : UInt8) : Bool := decide (32 ≤ c.toNat) && !(c == 127)
def signs : List UInt8 := [33, 35, 36, 37, 38, 39, 42, 43, 45, 47, 61, 63, 94, 95, 123, 124, 125, 126, 96]
def signs0 : List UInt8 := [33, 35, 36, 37, 38, 39, 42, 43, 45, 47, 61, 63, 94, 95, 123, 124, 125, 126]
def alnum (c : UInt8) : Bool := decide (65 ≤ c.toNat ∧ c.toNat ≤ 90) || (decide (97 ≤ c.toNat ∧ c.toNat ≤ 122) || (decide (48 ≤ c.toNat ∧ c.toNat ≤ 57) || decide (128 ≤ c.toNat)))
/-- A byte of an atom. -/
def atom (c : UInt8) : Bool := alnum c || decide (0 ≤ indexByte signs c)
def atom' (c : UInt8) : Bool := alnum c || (c == 96 || (decide (32 < c.toNat) && (decide (c.toNat < 127) && decide (0 ≤ indexByte signs0 c))))
set_option maxRecDepth 20000 in
theorem atom_all : ∀ n, n < 256 → atom (UInt8.ofNat n) = atom' (UInt8.ofNat n) := by decide +kernel
set_option maxRecDepth 20000 in
theorem atom_eq (c : UInt8) : atom' c = atom c := by
  have := atom_all c.toNat (UInt8.toNat_lt c)
  rw [UInt8.ofNat_toNat] at this
  exact this.symm
set_option maxRecDepth 20000 in
theorem atom_blank : atom 32 = false := by decide +kernel
set_option maxRecDepth 20000 in
theorem atom_point : atom 46 = false := by decide +kernel

/-- Are these atoms with one byte d between each two? The flag: an atom has begun. -/
def scan (d : UInt8) : Bool → List UInt8 → Bool
  | was, [] => was
  | was, c :: r => if atom c then scan d true r else if c == d && was then scan d false r else false
/-- Cut at each d. -/
def sp (d : UInt8) : List UInt8 → List (List UInt8)
  | [] => [[]]
  | c :: r => if c = d then [] :: sp d r else match sp d r with | h :: t => (c :: h) :: t | [] => [[c]]
def okA (p : List UInt8) : Bool := !p.isEmpty && p.all atom
set_option maxRecDepth 20000 in
theorem sp_ne (d : UInt8) (l : List UInt8) : ∃ h t, sp d l = h :: t := by
  cases l with
  | nil => exact ⟨[], [], rfl⟩
  | cons c r =>
    unfold sp
    split
    · exact ⟨_, _, rfl⟩
    · cases sp d r with
      | nil => exact ⟨_, _, rfl⟩
      | cons h t => exact ⟨_, _, rfl⟩
set_option maxRecDepth 20000 in
theorem scan_sp (d : UInt8) (hd : atom d = false) : ∀ (l h : List UInt8) (t : List (List UInt8)), sp d l = h :: t → scan d true l = (h.all atom && t.all okA) ∧ scan d false l = (okA h && t.all okA)
  | [], h, t, e => by
    simp only [sp, List.cons.injEq] at e
    obtain ⟨rfl, rfl⟩ := e
    exact ⟨rfl, rfl⟩
  | c :: r, h, t, e => by
    obtain ⟨h', t', e'⟩ := sp_ne d r
    obtain ⟨i1, i2⟩ := scan_sp d hd r h' t' e'
    by_cases hc : c = d
    · subst hc
      rw [sp, if_pos rfl, List.cons.injEq] at e
      obtain ⟨rfl, rfl⟩ := e
      constructor
      · rw [scan, if_neg (by rw [hd]; simp), if_pos (by simp), i2, e']
        rfl
      · rw [scan, if_neg (by rw [hd]; simp), if_neg (by simp)]
        rfl
    · rw [sp, if_neg hc, e'] at e
      simp only [List.cons.injEq] at e
      obtain ⟨rfl, rfl⟩ := e
      by_cases ha : atom c = true
      · constructor
        · rw [scan, if_pos ha, i1, List.all_cons, ha, Bool.true_and]
        · rw [scan, if_pos ha, i1, okA, List.all_cons, ha, Bool.true_and]
          rfl
      · rw [Bool.not_eq_true] at ha
        have hn : (c == d) = false := by simpa using hc
        constructor
        · rw [scan, if_neg (by rw [ha]; simp), hn, List.all_cons, ha]
          rfl
        · rw [scan, if_neg (by rw [ha]; simp), hn, okA, List.all_cons, ha]
          simp
set_option maxRecDepth 20000 in
theorem scan_all (d : UInt8) (hd : atom d = false) (l : List UInt8) : (sp d l).all okA = scan d false l := by
  obtain ⟨h, t, e⟩ := sp_ne d l
  rw [(scan_sp d hd l h t e).2, e, List.all_cons]
set_option maxRecDepth 20000 in
/-- The library's cut is ours. -/
theorem split_sp (d : UInt8) : ∀ l : List UInt8, splitK [d] 0 (count l [d]) l = sp d l
  | [] => by rw [count_miss (by simp [index])]; rfl
  | c :: r => by
    have ih := split_sp d r
    by_cases hc : c = d
    · subst hc
      have hix : index (c :: r) [c] = 0 := by rw [index]; simp [List.isPrefixOf]
      rw [count_cons_eq, Nat.add_comm, splitK, hix, if_neg (by decide), sp, if_pos rfl, ← ih]
      rfl
    · have hp : ([d] : List UInt8).isPrefixOf (c :: r) = false := by simp [List.isPrefixOf, Ne.symm hc]
      have hix : index (c :: r) [d] = if index r [d] == -1 then -1 else index r [d] + 1 := by rw [index, hp]; simp
      rw [count_cons_ne c d r hc, sp, if_neg hc, ← ih]
      by_cases hm : index r [d] = -1
      · rw [count_miss hm]
        rfl
      · have hge := index_ge r [d]
        obtain ⟨j, hj⟩ : ∃ j : Nat, index r [d] = j := ⟨(index r [d]).toNat, by omega⟩
        have hne : (index r [d] == -1) = false := by rw [hj]; simp
        rw [hne] at hix
        simp only [Bool.false_eq_true, if_false] at hix
        have hne2 : (index (c :: r) [d] == -1) = false := by rw [hix, hj]; simp; omega
        obtain ⟨k, hk⟩ : ∃ k, count r [d] = k + 1 := ⟨count (r.drop (j + 1)) [d], by rw [count_hit (by simp) hj]; simp; omega⟩
        rw [hk, splitK, splitK, hne, hne2, hix, hj]
        have e1 : ((j : Int) + 1).toNat = j + 1 := by omega
        simp only [Bool.false_eq_true, if_false, e1, Int.toNat_natCast, Nat.add_zero, List.take_succ_cons, List.length_cons, List.length_nil]
        rfl
/-- Quoted. -/
def qs : List UInt8 → List UInt8
  | [] => []
  | c :: r => if c == 34 || c == 92 then 92 :: c :: qs r else c :: qs r
set_option maxRecDepth 20000 in
theorem qs_esc (l p x : List UInt8) (k : Nat) (hk : k < l.length) (h : (l[k] == 34 || l[k] == 92) = true) (hp : p ++ qs (l.drop k) = x) : (p ++ [92] ++ [l[k]]) ++ qs (l.drop (k + 1)) = x := by
  rw [drop_cons l k hk, qs, if_pos h] at hp
  simpa using hp
set_option maxRecDepth 20000 in
theorem qs_plain (l p x : List UInt8) (k : Nat) (hk : k < l.length) (h : (l[k] == 34 || l[k] == 92) = false) (hp : p ++ qs (l.drop k) = x) : (p ++ [l[k]]) ++ qs (l.drop (k + 1)) = x := by
  rw [drop_cons l k hk, qs, if_neg (by rw [h]; simp)] at hp
  simpa using hp
set_option maxRecDepth 20000 in
theorem qs_done (l p x : List UInt8) (k : Nat) (hk : l.length ≤ k) (hp : p ++ qs (l.drop k) = x) : p = x := by
  rw [List.drop_eq_nil_of_le hk] at hp
  simpa [qs] using hp
def phrase (l : List UInt8) : List UInt8 := if l.all tb then (if scan 32 false l then l else 34 :: qs l ++ [34]) else []
end Pl
end Go.Proofs.YtillilllceeonaaDoor
namespace Go.Proofs.YtillilllceeonaaDoor
open Go.RowKit Go.Lib
set_option maxRecDepth 20000 in
theorem tb_cases (c : UInt8) : c.toNat < 32 ∧ Pl.tb c = false ∨ 32 ≤ c.toNat ∧ ((c.toNat : Int) == 127) = true ∧ Pl.tb c = false ∨ 32 ≤ c.toNat ∧ ((c.toNat : Int) == 127) = false ∧ Pl.tb c = true := by
  by_cases h1 : c.toNat < 32
  · exact .inl ⟨h1, by simp [Pl.tb]; omega⟩
  · cases h3 : ((c.toNat : Int) == 127)
    · refine .inr (.inr ⟨by omega, rfl, ?_⟩)
      have := Pl.byte_ne c 127 _ rfl h3
      simp [Pl.tb, this]; omega
    · refine .inr (.inl ⟨by omega, rfl, ?_⟩)
      rw [Pl.byte_eq c 127 _ rfl h3]; rfl
def Pl.letter (c : UInt8) : Bool := decide (65 ≤ c.toNat ∧ c.toNat ≤ 90) || decide (97 ≤ c.toNat ∧ c.toNat ≤ 122)
def Pl.digit (c : UInt8) : Bool := decide (48 ≤ c.toNat ∧ c.toNat ≤ 57)
set_option maxRecDepth 20000 in
/-- The ranges of a byte. -/
theorem range_cases (c : UInt8) : (c.toNat < 48 ∧ Pl.alnum c = false) ∨ (48 ≤ c.toNat ∧ c.toNat ≤ 57 ∧ Pl.alnum c = true) ∨ (58 ≤ c.toNat ∧ c.toNat ≤ 64 ∧ Pl.alnum c = false) ∨ (65 ≤ c.toNat ∧ c.toNat ≤ 90 ∧ Pl.alnum c = true) ∨
    (91 ≤ c.toNat ∧ c.toNat ≤ 96 ∧ Pl.alnum c = false) ∨ (97 ≤ c.toNat ∧ c.toNat ≤ 122 ∧ Pl.alnum c = true) ∨ (123 ≤ c.toNat ∧ c.toNat ≤ 127 ∧ Pl.alnum c = false) ∨ (128 ≤ c.toNat ∧ Pl.alnum c = true) := by
  unfold Pl.alnum
  by_cases h1 : c.toNat < 48
  · exact .inl ⟨h1, by simp; omega⟩
  by_cases h2 : c.toNat ≤ 57
  · exact .inr (.inl ⟨by omega, h2, by simp; omega⟩)
  by_cases h3 : c.toNat ≤ 64
  · exact .inr (.inr (.inl ⟨by omega, h3, by simp; omega⟩))
  by_cases h4 : c.toNat ≤ 90
  · exact .inr (.inr (.inr (.inl ⟨by omega, h4, by simp; omega⟩)))
  by_cases h5 : c.toNat ≤ 96
  · exact .inr (.inr (.inr (.inr (.inl ⟨by omega, h5, by simp; omega⟩))))
  by_cases h6 : c.toNat ≤ 122
  · exact .inr (.inr (.inr (.inr (.inr (.inl ⟨by omega, h6, by simp; omega⟩)))))
  by_cases h7 : c.toNat ≤ 127
  · exact .inr (.inr (.inr (.inr (.inr (.inr (.inl ⟨by omega, h7, by simp; omega⟩))))))
  · exact .inr (.inr (.inr (.inr (.inr (.inr (.inr ⟨by omega, by simp; omega⟩))))))
end Go.Proofs.YtillilllceeonaaDoor
