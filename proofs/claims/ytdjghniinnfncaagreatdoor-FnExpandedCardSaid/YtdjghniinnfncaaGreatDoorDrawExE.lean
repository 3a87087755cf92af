
/- The draws of Expand. -/
import Derived.Test.YtdjghniinnfncaaGreatDoorDrawExD2
import Derived.Test.YtdjghniinnfncaaGreatDoorDec
namespace Go.Proofs.YtdjghniinnfncaaGreatDoor
open Go.RowKit Go.Lib Go.Maps
set_option maxRecDepth 20000 in
theorem HT2S {E : List AlE} (h : Hid (∀ e ∈ E, e.1.fits 1000)) : ∀ e ∈ E, e.1.fits 1000 := h.out
set_option maxRecDepth 20000 in
theorem GAlias.fits_mono {n : GAlias} {m m' : Nat} (h : n.fits m) (hm : m ≤ m') : n.fits m' := ⟨Nat.le_trans h.1 hm, Nat.le_trans h.2.1 hm, fun t ht => Nat.le_trans (h.2.2 t ht) hm⟩
set_option maxRecDepth 20000 in
set_option maxHeartbeats 16000000 in
theorem drawExpand (o : Option Addr) (c : List UInt8) (cp : Nat) (w : World) (hc : Code w.heap.size w o c) (hl : c.length ≤ 1048576) :
    Calls Tryz.prog 4 #[.slice o c.length cp] w fun e w' => ∃ (v : Value) (E : List AlE) (k : ByteArray), e = .returned (.tuple #[v, .string k]) ∧ E.length ≤ 100 ∧ (∀ e ∈ E, e.1.fits 1000) ∧ Al w.heap.size v E w' ∧ k.size ≤ 100 ∧ Below w.heap.size w w' := by
  have hS := srcNew o c.length cp w hl
  have HC0 := mkHid hc
  clear hc
  go_enter Tryz.func4, Tryz.ntmps4
  go_wp2_with fail
  refine hS.mono ?_
  rintro e w1 ⟨z, rfl, hz, hs0, hb0⟩
  have HC1 : Hid (Code w.heap.size w1 o c) := HC0.out.below hb0
  have Hb0 := mkHid hb0
  have Hsz0 := mkHid hb0.size
  have hgl0 := hs0.lt
  have Hs0 := mkHid hs0
  have gr_new0 : ∀ {g : Nat}, Hid (g = w.heap.size) → Below w.heap.size w w1 → ∀ {w' : World}, w1.grownBy w' (some g) → Below w.heap.size w w' := fun hg hb _ h => by rw [hg.out] at h; exact gr_new hb h
  clear hS hs0 hb0 HC0
  obtain ⟨g, hg⟩ : ∃ g, g = w.heap.size := ⟨_, rfl⟩
  have Hgw := mkHid hg
  have HC : Hid (Code g w1 o c) := by rw [hg]; exact HC1.out
  have hgl : g < w1.heap.size := by rw [hg]; exact hgl0
  have Hs1 : Hid (Src w1 g o c.length cp 0 z) := by rw [hg]; exact Hs0.out
  replace gr_new0 := gr_new0 Hgw
  have Hgr := mkHid @gr_new0
  clear gr_new0 hg HC1 hgl0 Hs0
  have hA := srcAliases g o c cp 0 z w1 Hs1.out HC.out (by omega) hl
  rw [Hgw.out] at hA
  go_wp2_with fail
  refine hA.mono ?_
  rw [← Hgw.out]
  rintro e w2 ⟨v0, E0, a1, rfl, hE0, hT0, hA2, ha1, hs2, hg2⟩
  have HT0 : Hid (∀ e ∈ E0, e.1.fits 1000) := fun e he => GAlias.fits_mono (hT0 e he) (by omega)
  have Hs2 := mkHid hs2
  have Hg2 := mkHid hg2
  have HA2 := mkHid hA2
  clear hA hs2 hg2 hA2 hT0 Hs1
  have hO1 := srcOne g o c cp a1 z 12 w2 Hs2.out (HC.out.grown Hg2.out (Nat.le_refl _)) (by omega) hl (by omega) (by omega)
  go_wp2_with fail
  refine hO1.mono ?_
  rintro e w3 ⟨b1, rfl, hs3, hg3⟩
  replace Hs2 := mkHid hs3
  replace HA2 := mkHid (HA2.out.gr hg3 hgl)
  replace Hg2 := mkHid (gr_trans Hg2.out hg3)
  clear hO1 hs3 hg3
  cases b1 with
  | true =>
        go_wp2
        go_loopw [5, 6] (fun ov iv wr => ∃ (k a' : Nat) (E : List AlE), iv = .int .i64 k ∧ k ≤ 23 ∧ E.length ≤ 3 + k ∧ a' ≤ a1 + 1 + k ∧ Hid (∀ e ∈ E, e.1.fits 1000) ∧ Hid (Src wr g o c.length cp a' z) ∧ Hid (w1.grownBy wr (some g)) ∧ Hid (Al w1.heap.size ov E wr)) (fun _ iv _ => 23 - (Lib.intOf iv).toNat)
        case atStart => exact ⟨0, a1 + 1, E0, by go_num, by omega, by omega, by omega, HT0, Hs2, Hg2, HA2⟩
        case round =>
          clear Hs2 Hg2 HA2 HT0
          obtain ⟨k, a', E, rfl, hk, hEk, hak, HT, Hs, Hg, HO⟩ := hrel
          obtain ⟨V0, hV0⟩ : ∃ V, V = wr := ⟨_, rfl⟩
          subst hV0
          have hN := srcN g o c cp a' z 6 V0 Hs.out (HC.out.grown Hg.out (Nat.le_refl _)) (by omega) hl (by omega) (by omega)
          go_wp2_with fail
          refine hN.mono ?_
          rintro e w2 ⟨v, rfl, hv, hs2, hg2⟩
          have Hs2 := mkHid hs2
          have Hg2 := mkHid (gr_trans Hg.out hg2)
          have HO2 := mkHid (HO.out.gr hg2 hgl)
          clear hN hs2 hg2 Hs Hg HO
          by_cases hlt : (k : Int) < 18 + (v : Int)
          · have cD := mkHid (fun W => specDec k (by omega) W)
            have cD2 := mkHid (fun W => specDec (k + 1) (by omega) W)
            rw [show ((k + 1 : Nat) : Int) = (k : Int) + 1 by omega] at cD2
            have z1 := dec_len k
            have z2 := dec_len (k + 1)
            obtain ⟨d1, hd1⟩ : ∃ d : ByteArray, ⟨(decDigits k).toArray⟩ = d := ⟨_, rfl⟩
            obtain ⟨d2, hd2⟩ : ∃ d : ByteArray, ⟨(decDigits (k + 1)).toArray⟩ = d := ⟨_, rfl⟩
            have hz1 : d1.size ≤ 24 := by rw [← hd1]; show (decDigits k).toArray.size ≤ 24; rw [List.size_toArray]; omega
            have hz2 : d2.size ≤ 25 := by rw [← hd2]; show (decDigits (k + 1)).toArray.size ≤ 25; rw [List.size_toArray]; omega
            rw [hd1] at cD
            rw [hd2] at cD2
            clear hd1 hd2 z1 z2
            have n0 : ¬ 9223372036854775807 < 1 + d1.size := by omega
            have n1 : ¬ 9223372036854775807 < 1 + d1.size + 10 := by omega
            have n2 : ¬ 9223372036854775807 < 1 + d2.size := by omega
            have n3 : ¬ 9223372036854775807 < 1 + d2.size + 10 := by omega
            go_wp2_with fail
            refine (cD.out _).mono ?_
            rintro e w3 ⟨rfl, hb3⟩
            have Hs3 := mkHid (Hs2.out.below hb3)
            have Hg3 := mkHid (gr_trans Hg2.out (gr_below hb3))
            have HO3 := mkHid (HO2.out.below hb3)
            clear hb3 Hs2 Hg2 HO2 cD
            go_wp2_with fail
            refine (cD2.out _).mono ?_
            rintro e w4 ⟨rfl, hb4⟩
            have Hs4 := mkHid (Hs3.out.below hb4)
            have Hg4 := mkHid (gr_trans Hg3.out (gr_below hb4))
            have HO4 := mkHid (HO3.out.below hb4)
            have hw4 : w1.heap.size ≤ w4.heap.size := Hg4.out.size
            clear hb4 Hs3 Hg3 HO3 cD2
            obtain ⟨t1, ht1⟩ : ∃ t, (⟨#[110]⟩ : ByteArray) ++ d1 ++ ⟨#[64, 97, 46, 101, 120, 97, 109, 112, 108, 101]⟩ = t := ⟨_, rfl⟩
            obtain ⟨t2, ht2⟩ : ∃ t, (⟨#[110]⟩ : ByteArray) ++ d2 ++ ⟨#[64, 97, 46, 101, 120, 97, 109, 112, 108, 101]⟩ = t := ⟨_, rfl⟩
            have y1 : t1.size ≤ 40 := by rw [← ht1, ByteArray.size_append, ByteArray.size_append]; show 1 + d1.size + 10 ≤ 40; omega
            have y2 : t2.size ≤ 40 := by rw [← ht2, ByteArray.size_append, ByteArray.size_append]; show 1 + d2.size + 10 ≤ 40; omega
            have Ht1 := mkHid ht1
            have Ht2 := mkHid ht2
            clear ht1 ht2
            obtain ⟨VA, hVA⟩ : ∃ V, w4.alloc (.cells #[.string t2, .string ⟨#[98, 111, 98, 64, 98, 46, 101, 120, 97, 109, 112, 108, 101]⟩] 9) = V := ⟨_, rfl⟩
            have bA : Below w4.heap.size w4 VA := by rw [← hVA]; exact (Below.refl _ _).alloc (Nat.le_refl _) _
            have X1 : OwnX w1.heap.size (.slice (some ⟨w4.heap.size, 0, none⟩) 2 2) [t2, ⟨#[98, 111, 98, 64, 98, 46, 101, 120, 97, 109, 112, 108, 101]⟩] VA := ⟨rfl, .inr ⟨w4.heap.size, 2, _, rfl, hw4, by rw [← hVA]; exact heap_alloc_at _ _, Nat.le_refl _, by decide, rfl, rfl⟩⟩
            have hszA : w4.heap.size < VA.heap.size := by rw [← hVA]; simp
            obtain ⟨VB, hVB⟩ : ∃ V, VA.alloc (.cells #[.string t1, .slice (some ⟨w4.heap.size, 0, none⟩) 2 2] 32) = V := ⟨_, rfl⟩
            have bB : Below VA.heap.size VA VB := by rw [← hVB]; exact (Below.refl _ _).alloc (Nat.le_refl _) _
            have n2 : VB.heap[VA.heap.size]? = some (.cells #[.string t1, .slice (some ⟨w4.heap.size, 0, none⟩) 2 2] 32 (0, 0)) := by rw [← hVB]; exact hp_alloc _ _
            obtain ⟨q, hq⟩ : ∃ q : AlE, q = (⟨t1, [t2, ⟨#[98, 111, 98, 64, 98, 46, 101, 120, 97, 109, 112, 108, 101]⟩]⟩, .slice (some ⟨w4.heap.size, 0, none⟩) 2 2) := ⟨_, rfl⟩
            have HRo : Hid (∀ e ∈ [q], OwnX w1.heap.size e.2 e.1.toF VB) := by
              intro e he
              simp only [List.mem_cons, List.not_mem_nil, or_false] at he
              subst he
              rw [hq]
              exact X1.below bB
            have Hcs : Hid (∀ j u, (alCells [q])[j]? = some u → VB.cell? ((⟨VA.heap.size, 0, none⟩ : Addr).add j) = some u) := by
              intro j u hj
              rw [Addr.add_lit, Nat.zero_add]
              rw [hq] at hj
              match j, hj with
              | 0, hj => cases hj; simp [World.cell?, n2]
              | 1, hj => cases hj; simp [World.cell?, n2]
            have Hfit : Hid (q.1.fits 1000) := by
              rw [hq]
              refine ⟨by show t1.size ≤ 1000; omega, by show 2 ≤ 1000; omega, fun t ht => ?_⟩
              simp only [List.mem_cons, List.not_mem_nil, or_false] at ht
              rcases ht with rfl | rfl
              · omega
              · decide
            have HO5 := mkHid ((HO4.out.below bA).below bB)
            have Hs5 := mkHid ((Hs4.out.below bA).below bB)
            have Hg5 := mkHid (gr_trans Hg4.out (gr_trans (gr_below bA) (gr_below bB)))
            have hsB : w1.heap.size ≤ VB.heap.size := Hg5.out.size
            have hszN : Hid (VA.heap.size = w4.heap.size + 1) := by show _ = _; rw [← hVA]; simp
            have HVA := mkHid hVA
            have HVB := mkHid hVB
            clear hVA hVB bA bB X1 n2 hq HO4 Hs4 Hg4 hszA
            go_wp2_with (at_builtin; go_must (rw [Ht1.out, Ht2.out, HVA.out, ← hszN.out, HVB.out]; refine wp_appA (w := VB) rfl _ _ rfl w1.heap.size u5 E rfl HO5.out [q] ⟨VA.heap.size, 0, none⟩ 1 1 rfl rfl Hcs.out HRo.out (by simp; omega) hsB ?_; intro v' w' hA' hG'; refine Hid.out ?_))
            have hblk : ∀ r, u5.ownBlock = some r → w1.heap.size ≤ r := fun r hr => (World.ownsRow.lt HO5.out.row r hr).1
            have Hs6 := mkHid (Hs5.out.row hG' (fun r hr => by have := hblk r hr; omega))
            have Hg6 := mkHid (gr_row Hg5.out hG' hblk)
            have HA6 := mkHid hA'
            have HT6 : Hid (∀ e ∈ E ++ [q], e.1.fits 1000) := by
              intro e he
              rcases List.mem_append.1 he with he | he
              · exact HT.out e he
              · simp only [List.mem_cons, List.not_mem_nil, or_false] at he
                subst he
                exact Hfit.out
            have hE2 : (E ++ [q]).length ≤ E.length + 1 := by simp
            clear hA' hG' HO5 HRo Hcs HVA HVB Hg5 Hs5 Hfit HT Ht1 Ht2
            generalize E ++ [q] = E2 at *
            refine mkHid ?_
            go_wp2
            refine ⟨⟨k + 1, a' + 1, E2, by go_num, by omega, by omega, by omega, HT6, Hs6, Hg6, HA6⟩, by simp [Lib.intOf]; omega⟩
          · go_wp2
            go_ret2
            exact ⟨_, E, _, rfl, by omega, HT2S HT, HO2.out.base Hsz0.out, by decide, Hgr.out Hb0.out Hg2.out⟩
  | false =>
    have hO1 := srcOne g o c cp (a1 + 1) z 20 w3 Hs2.out (HC.out.grown Hg2.out (Nat.le_refl _)) (by omega) hl (by omega) (by omega)
    go_wp2_with fail
    refine hO1.mono ?_
    rintro e w4 ⟨b2, rfl, hs3, hg3⟩
    replace Hs2 := mkHid hs3
    replace HA2 := mkHid (HA2.out.gr hg3 hgl)
    replace Hg2 := mkHid (gr_trans Hg2.out hg3)
    clear hO1 hs3 hg3
    cases b2 with
    | true =>
        have hw4 : w1.heap.size ≤ w4.heap.size := Hg2.out.size
        have hR2 := hp_alloc w4 (.cells #[.string ⟨#[]⟩, .slice none 0 0] 32)
        go_wp2_with (refine wpL_store_row rfl 32 _ _ rfl w4.heap.size _ rfl rfl 32 _ hR2 (by kernel_rfl) rfl (by simp [Value.oneCell']) ?_)
        obtain ⟨V5, hV5⟩ : ∃ V, (w4.alloc (.cells #[.string ⟨#[]⟩, .slice none 0 0] 32)).setRow w4.heap.size #[.string ⟨#[98, 105, 103, 64, 97, 46, 101, 120, 97, 109, 112, 108, 101]⟩, .slice none 0 0] = V := ⟨_, rfl⟩
        have HB5 : Hid (V5.heap[w4.heap.size]? = some (.cells #[.string ⟨#[98, 105, 103, 64, 97, 46, 101, 120, 97, 109, 112, 108, 101]⟩, .slice none 0 0] 32 (0, 0))) := by rw [← hV5]; exact setRow_heap _ _ _ _ _ _ hR2
        have hoth : ∀ i, i < w4.heap.size → V5.heap[i]? = w4.heap[i]? := by
          intro i hi
          rw [← hV5, setRow_other _ _ _ _ (by omega)]
          exact ((Below.refl w4.heap.size w4).alloc (Nat.le_refl _) _).block i hi
        have hb5 : Below w4.heap.size w4 V5 := ⟨by rw [← hV5]; rfl, by rw [← hV5]; rfl, by rw [← hV5]; rfl, by rw [← hV5]; simp, hoth⟩
        rw [hV5]
        obtain ⟨Bk, hBk⟩ : ∃ Bk, Bk = w4.heap.size := ⟨_, rfl⟩
        have HBk := mkHid hBk
        rw [← hBk] at HB5 ⊢
        have hBw0 : Bk < V5.heap.size := hp_lt HB5.out
        have hBkw : w4.heap.size ≤ Bk := by omega
        obtain ⟨nm, hnm⟩ : ∃ nm : ByteArray, nm = ⟨#[98, 105, 103, 64, 97, 46, 101, 120, 97, 109, 112, 108, 101]⟩ := ⟨_, rfl⟩
        have hnz : nm.size ≤ 20 := by rw [hnm]; decide
        rw [← hnm] at HB5 ⊢
        clear hBk hoth hV5 hR2 hnm
        obtain ⟨V0, hV0⟩ : ∃ V, V = w4 := ⟨_, rfl⟩
        have Hgi : Hid (V0.grownBy V5 (some g)) := by rw [hV0]; exact gr_below hb5
        have HsV := mkHid (Hs2.out.below hb5)
        rw [← hV0] at Hg2 HA2 hw4 hBkw
        clear hV0 hb5 Hs2 HBk
        obtain ⟨ax, hax⟩ : ∃ ax, ax = a1 + 1 + 1 := ⟨_, rfl⟩
        rw [← hax] at HsV
        replace hax : ax ≤ a1 + 2 := by omega
        go_wp2
        go_loopw [8] (fun jv wr => ∃ (k ct : Nat) (P : List ByteArray) (ot : Option Addr) (ax : Nat), jv = .int .i64 k ∧ k ≤ 100 ∧ P.length ≤ k ∧ ax ≤ a1 + 2 + 7 * k ∧ Hid (∀ t ∈ P, t.size ≤ 121) ∧ Hid (Src wr g o c.length cp ax z) ∧ Hid (V0.grownBy wr (some g)) ∧ Hid (wr.heap[Bk]? = some (.cells #[.string nm, .slice ot P.length ct] 32 (0, 0))) ∧ Hid (OwnX (Bk + 1) (.slice ot P.length ct) P wr)) (fun jv _ => 100 - (Lib.intOf jv).toNat)
        case atStart => exact ⟨0, 0, [], none, ax, by go_num, by omega, by simp, by omega, fun t ht => by simp at ht, HsV, Hgi, HB5, OwnX.nil _ _⟩
        case round =>
          clear HsV Hgi HB5 hax ax
          obtain ⟨k, ct, P, ot, ax, rfl, hk, hPk, hax, HP, Hs, Hgi, HB, HX⟩ := hrel
          by_cases hlt : k < 100
          · have hltI : (k : Int) < 100 := by omega
            have hgr0 : g < wr.heap.size := Hs.out.lt
            have hBw : Bk < wr.heap.size := hp_lt HB.out
            have HB1 : Hid (wr.cell? ⟨Bk, 1, none⟩ = some (.slice ot P.length ct)) := by show _ = _; simp [World.cell?, HB.out]
            have HG : Hid (GoneBy wr g o c.length cp ax z 0 wr.drew) := ⟨gr_below (Below.refl _ _).drew, ax, by omega, Hs.out.below (Below.refl _ _).drew⟩
            have cD := mkHid (fun W => specDec k (by omega) W)
            have z1 := dec_len k
            obtain ⟨d1, hd1⟩ : ∃ d : ByteArray, ⟨(decDigits k).toArray⟩ = d := ⟨_, rfl⟩
            have hz1 : d1.size ≤ 110 := by rw [← hd1]; show (decDigits k).toArray.size ≤ 110; rw [List.size_toArray]; omega
            rw [hd1] at cD
            clear hd1 z1
            go_wp2
            obtain ⟨W0, hW0⟩ : ∃ V, V = wr := ⟨_, rfl⟩
            subst hW0
            refine wp_region_any (by kernel_rfl) ?_
            refine wpAny_phase 7 3 #[true, true, true, true, true, true, true, false, false, false] bgDst (fun x => rgAct [_, _, _, _, _, _, _, _, _, _, _, _, _, _, _, _, _, _, _, _, _, _, _, _, _, _, _, _, _, _, _, _, _, _, _, _, _, _, _, _, _, _, _, _, _, _] [x 46, x 47, x 48, x 49, x 50, x 51, x 52] [_, _, _, _, _, _, _, _, _, _, _, _, _, _, _, _, _, _, _, _, _, _, _, _, _, _, _, _, _, _, _, _, _, _, _, _, _, _, _, _, _, _, _]) (bgFact (.slice ot P.length ct) k Bk g W0.heap.size) (fun q w => GoneBy W0 g o c.length cp ax z q w) (fun w w' => w.grownBy w' (some g)) rfl rfl (by decide) rfl (by kernel_rfl) (by kernel_rfl) ?_ (bgFact.gr hgr0) ?hend ?hstep _ _ 0 (fun j => match j with | 46 => u46 | 47 => u47 | 48 => u48 | 49 => u49 | 50 => u50 | 51 => u51 | 52 => u52 | _ => undef) _ rfl rfl rfl (by intro j hj; simp [Array.getD]) ?_ HG.out ?_
            · intro i j hi hj hne
              have e1 : ∀ q, q < 7 → ∀ r, r < 7 → q ≠ r → bgDst q ≠ bgDst r := by decide
              exact e1 j hj i hi hne
            case hend =>
              intro x wq hG hf
              have f1 : x 47 = .slice ot P.length ct := hf 1 (by decide)
              obtain ⟨b, t, e4, hb, hbk, hft⟩ := hf 6 (by decide)
              have e4' : x 52 = .slice (some ⟨b, 0, none⟩) 1 1 := e4
              obtain ⟨hgq, a2, ha2, hs2⟩ := hG
              have HXq : OwnX (Bk + 1) (.slice ot P.length ct) P wq := HX.out.sameX (Same.gr hgq (by omega) (Nat.le_refl _))
              have hsq : Bk + 1 ≤ wq.heap.size := Nat.le_trans hBw hgq.size
              have hcel : wq.cell? ⟨b, 0, none⟩ = some (.string t) := by simp [World.cell?, hbk]
              have HBq : wq.heap[Bk]? = some (.cells #[.string nm, .slice ot P.length ct] 32 (0, 0)) := by
                rw [hgq.block Bk hBw (by intro e; have := Option.some.inj e; omega)]
                exact HB.out
              have hblk : ∀ q, (Value.slice ot P.length ct).ownBlock = some q → Bk + 1 ≤ q := fun q hq => (World.ownsRow.lt HX.out q hq).1
              have Hgq := mkHid (gr_trans Hgi.out hgq)
              clear hf e4 hbk
              refine wpAny_ready (rs := [7]) (by kernel_rfl) (by simp) ?_
              refine AllReady.cons rfl (fun K hK => ?_) AllReady.nil
              rw [if_pos (by rfl)]
              refine opAppXd _ _ rfl (Bk + 1) (.slice ot P.length ct) P f1 HXq t b 1 e4' hcel (by omega) hsq ?_
              intro v' w' hO' hG'
              refine hK _ _ ?_
              clear hK K
              have hs3 : Src w' g o c.length cp a2 z := hs2.row hG' (fun q hq => by have := hblk q hq; omega)
              have hg3 : V0.grownBy w' (some g) := gr_row Hgq.out hG' (fun q hq => by have := hblk q hq; omega)
              have hB3 : w'.heap[Bk]? = some (.cells #[.string nm, .slice ot P.length ct] 32 (0, 0)) := by
                rw [hG'.block Bk (by omega) (fun e => by have := hblk Bk e.symm; omega)]
                exact HBq
              obtain ⟨o2, c2, rfl⟩ := hO'.shape
              have hc3 : w'.cell? ⟨Bk, 1, none⟩ = some (.slice ot P.length ct) := by simp [World.cell?, hB3]
              have hf3 : w'.frozen? ⟨Bk, 1, none⟩ = false := by simp [World.frozen?, hB3]
              have HP2 : Hid (∀ q ∈ P ++ [t], q.size ≤ 121) := by
                intro q hq
                rcases List.mem_append.1 hq with hq | hq
                · exact HP.out q hq
                · simp only [List.mem_cons, List.not_mem_nil, or_false] at hq
                  subst hq
                  exact hft
              have hP2 : (P ++ [t]).length ≤ P.length + 1 := by simp
              have hP3 : P.length + 1 ≤ (P ++ [t]).length := by simp
              obtain ⟨P2, hPe⟩ : ∃ P2, P ++ [t] = P2 := ⟨_, rfl⟩
              rw [hPe] at HP2 hP2 hP3 hO' ⊢
              clear hPe
              have HB4 : Hid ((w'.setCell ⟨Bk, 1, none⟩ (.slice o2 P2.length c2)).heap[Bk]? = some (.cells #[.string nm, .slice o2 P2.length c2] 32 (0, 0))) := by show _ = _; simp [World.setCell, Array.getElem?_modify, hB3]
              have HX4 : Hid (OwnX (Bk + 1) (.slice o2 P2.length c2) P2 (w'.setCell ⟨Bk, 1, none⟩ (.slice o2 P2.length c2))) := row_stay hO' (fun q hq => by
                have := (World.ownsRow.lt hO' q hq).1
                simp [World.setCell, Array.getElem?_modify, show Bk ≠ q by omega])
              have Hs4 := mkHid (hs3.setC (b := Bk) (j := 1) (v := .slice o2 P2.length c2) (by omega))
              have Hg4 := mkHid (gr_setC (b := Bk) (j := 1) (v := .slice o2 P2.length c2) hg3 (by omega))
              clear hO' hG' HXq hcel hs2 hgq hs3 hg3 hB3 HBq HX HB HB1 HP Hgq cD HG
              show wpAny _ _ _ _ 2 _ (rgAct [_, _, _, _, _, _, _, _, _, _, _, _, _, _, _, _, _, _, _, _, _, _, _, _, _, _, _, _, _, _, _, _, _, _, _, _, _, _, _, _, _, _, _, _, _, _] [x 46, x 47, x 48, x 49, x 50, x 51, x 52] (.slice o2 P2.length c2 :: [_, _, _, _, _, _, _, _, _, _, _, _, _, _, _, _, _, _, _, _, _, _, _, _, _, _, _, _, _, _, _, _, _, _, _, _, _, _, _, _, _, _])) _
              generalize x 46 = y46
              generalize x 47 = y47
              generalize x 48 = y48
              generalize x 49 = y49
              generalize x 50 = y50
              generalize x 51 = y51
              generalize x 52 = y52
              go_simp
              refine wpAny_ready (rs := [8]) (by kernel_rfl) (by simp) ?_
              refine AllReady.cons rfl (fun K hK => ?_) AllReady.nil
              go_simp
              refine hK _ _ ?_
              clear hK K
              go_simp
              refine wpAny_ready (rs := [9]) (by kernel_rfl) (by simp) ?_
              refine AllReady.cons rfl (fun K hK => ?_) AllReady.nil
              go_simp
              refine hK _ _ ?_
              clear hK K
              go_simp
              refine wpAny_done (by kernel_rfl) ?_ _
              go_simp
              go_wp2
              go_roundw
              case rel => exact ⟨k + 1, c2, P2, o2, a2, by go_num, by omega, by omega, by omega, HP2, Hs4, Hg4, HB4, HX4⟩
              case measure => simp [Lib.intOf]; omega
            case hstep =>
              clear HX HP HB Hs
              intro k2 x L wr i hil hkl hG hi hf
              rcases (show i = 0 ∨ i = 1 ∨ i = 2 ∨ i = 3 ∨ i = 4 ∨ i = 5 ∨ i = 6 by omega) with rfl | rfl | rfl | rfl | rfl | rfl | rfl
              · clear hi hf
                refine wpOp_step rfl (fun K hK => ?_)
                go_simp
                exact hK _ _ ⟨.pointer (some ⟨Bk, 1, none⟩), by simp [put, bgDst], rfl, gr_refl _ _, hG.still (Below.refl _ _)⟩
              · have e0 : x 46 = .pointer (some ⟨Bk, 1, none⟩) := hf 0 (by omega) (ready_dep hi rfl 0 (by kernel_rfl))
                clear hi hf
                have hcel : wr.cell? ⟨Bk, 1, none⟩ = some (.slice ot P.length ct) := gr_cell hG.1 (show Bk ≠ g by omega) HB1.out
                refine wpOp_step rfl (fun K hK => ?_)
                go_simp
                exact hK _ _ ⟨.slice ot P.length ct, by simp [put, bgDst, e0], rfl, gr_refl _ _, hG.still (Below.refl _ _)⟩
              · clear hi hf
                refine wpOp_step rfl (fun K hK => ?_)
                go_simp
                exact hK _ _ ⟨.int .i64 (k : Int), by simp [put, bgDst], rfl, gr_refl _ _, hG.still (Below.refl _ _)⟩
              · have e0 : x 48 = .int .i64 (k : Int) := hf 2 (by omega) (ready_dep hi rfl 2 (by kernel_rfl))
                clear hi hf
                refine wpOp_step rfl (fun K hK => ?_)
                go_simp
                refine (cD.out _).mono ?_
                rintro e w2 ⟨rfl, hb2⟩
                go_simp
                exact hK _ _ ⟨.string d1, by simp [put, bgDst, e0], ⟨d1, rfl, hz1⟩, gr_below hb2, hG.still hb2⟩
              · have f3 := hf 3 (by omega) (ready_dep hi rfl 3 (by kernel_rfl))
                clear hi hf
                obtain ⟨t, e0, hts⟩ := f3
                have e0' : x 49 = .string t := e0
                have n0 : ¬ 9223372036854775807 < 1 + t.size := by omega
                clear e0
                refine wpOp_step rfl (fun K hK => ?_)
                go_simp
                exact hK _ _ ⟨.string (⟨#[117]⟩ ++ t), by simp [put, bgDst, e0'], ⟨_, rfl, by rw [ByteArray.size_append]; show 1 + t.size ≤ 111; omega⟩, gr_refl _ _, hG.still (Below.refl _ _)⟩
              · have f3 := hf 4 (by omega) (ready_dep hi rfl 4 (by kernel_rfl))
                clear hi hf
                obtain ⟨t, e0, hts⟩ := f3
                have e0' : x 50 = .string t := e0
                have n0 : ¬ 9223372036854775807 < t.size + 10 := by omega
                clear e0
                refine wpOp_step rfl (fun K hK => ?_)
                go_simp
                exact hK _ _ ⟨.string (t ++ ⟨#[64, 120, 46, 101, 120, 97, 109, 112, 108, 101]⟩), by simp [put, bgDst, e0'], ⟨_, rfl, by rw [ByteArray.size_append]; exact Nat.add_le_add_right hts 10⟩, gr_refl _ _, hG.still (Below.refl _ _)⟩
              · have f3 := hf 5 (by omega) (ready_dep hi rfl 5 (by kernel_rfl))
                clear hi hf
                obtain ⟨t, e0, ht⟩ := f3
                have e0' : x 51 = .string t := e0
                clear e0
                refine wpOp_step rfl (fun K hK => ?_)
                go_simp
                have hbb : ∀ cs, Below wr.heap.size wr (wr.alloc (.cells cs 9)) := fun cs => (Below.refl _ _).alloc (Nat.le_refl _) _
                exact hK _ _ ⟨.slice (some ⟨wr.heap.size, 0, none⟩) 1 1, by simp [put, bgDst, e0'], ⟨wr.heap.size, t, rfl, hG.1.size, hp_alloc _ _, ht⟩, gr_below (hbb _), hG.still (hbb _)⟩
            · intro k2 j hk2
              simp [Array.getD] at hk2
            · intro j hj hd
              simp [Array.getD] at hd
          · have hnl : ¬ (k : Int) < 100 := by omega
            obtain ⟨Wb, hWb⟩ : ∃ V, V = wr := ⟨_, rfl⟩
            subst hWb
            obtain ⟨nb, hnb⟩ : ∃ nb, nb = nm := ⟨_, rfl⟩
            have hBb : Bk < Wb.heap.size := hp_lt HB.out
            have hnbz : nb.size ≤ 20 := by rw [hnb]; exact hnz
            rw [← hnb] at HB
            have hkp : P.length ≤ 100 := by omega
            subst hnb
            clear hnz
            generalize hPb : P = Pb at *
            generalize hotb : ot = otb at *
            generalize hctb : ct = ctb at *
            clear hPb hotb hctb
            have hR2 := hp_alloc Wb (.cells #[.string ⟨#[]⟩, .slice none 0 0] 32)
            go_wp2_with (refine wpL_store_row rfl 32 _ _ rfl Wb.heap.size _ rfl rfl 32 _ hR2 (by kernel_rfl) rfl (by simp [Value.oneCell']) ?_)
            obtain ⟨V6, hV5⟩ : ∃ V, (Wb.alloc (.cells #[.string ⟨#[]⟩, .slice none 0 0] 32)).setRow Wb.heap.size #[.string ⟨#[98, 105, 103, 50, 64, 97, 46, 101, 120, 97, 109, 112, 108, 101]⟩, .slice none 0 0] = V := ⟨_, rfl⟩
            have HB5 : Hid (V6.heap[Wb.heap.size]? = some (.cells #[.string ⟨#[98, 105, 103, 50, 64, 97, 46, 101, 120, 97, 109, 112, 108, 101]⟩, .slice none 0 0] 32 (0, 0))) := by rw [← hV5]; exact setRow_heap _ _ _ _ _ _ hR2
            have hoth : ∀ i, i < Wb.heap.size → V6.heap[i]? = Wb.heap[i]? := by
              intro i hi
              rw [← hV5, setRow_other _ _ _ _ (by omega)]
              exact ((Below.refl Wb.heap.size Wb).alloc (Nat.le_refl _) _).block i hi
            have hb5 : Below Wb.heap.size Wb V6 := ⟨by rw [← hV5]; rfl, by rw [← hV5]; rfl, by rw [← hV5]; rfl, by rw [← hV5]; simp, hoth⟩
            rw [hV5]
            obtain ⟨Dk, hBk⟩ : ∃ Bk, Bk = Wb.heap.size := ⟨_, rfl⟩
            have HDk := mkHid hBk
            rw [← hBk] at HB5 ⊢
            have hBw0 : Dk < V6.heap.size := hp_lt HB5.out
            have hBkw : Wb.heap.size ≤ Dk := by omega
            obtain ⟨nm, hnm⟩ : ∃ nm : ByteArray, nm = ⟨#[98, 105, 103, 50, 64, 97, 46, 101, 120, 97, 109, 112, 108, 101]⟩ := ⟨_, rfl⟩
            have hnz : nm.size ≤ 20 := by rw [hnm]; decide
            rw [← hnm] at HB5 ⊢
            clear hBk hoth hV5 hR2 hnm
            have Hg6 : Hid (Wb.grownBy V6 (some g)) := gr_below hb5
            have Hs6 := mkHid (Hs.out.below hb5)
            have hWg : V0.heap.size ≤ Wb.heap.size := Hgi.out.size
            clear hb5 Hs HDk
            go_wp2
            go_loopw [10] (fun jv wr => ∃ (k ct : Nat) (P : List ByteArray) (ot : Option Addr) (ax2 : Nat), jv = .int .i64 k ∧ k ≤ 100 ∧ P.length ≤ k ∧ k ≤ P.length ∧ ax2 ≤ a1 + 1000 + 8 * k ∧ Hid (∀ t ∈ P, t.size ≤ 121) ∧ Hid (Src wr g o c.length cp ax2 z) ∧ Hid (Wb.grownBy wr (some g)) ∧ Hid (wr.heap[Dk]? = some (.cells #[.string nm, .slice ot P.length ct] 32 (0, 0))) ∧ Hid (OwnX (Dk + 1) (.slice ot P.length ct) P wr)) (fun jv _ => 100 - (Lib.intOf jv).toNat)
            case atStart => exact ⟨0, 0, [], none, ax, by go_num, by omega, by simp, by simp, by omega, fun t ht => by simp at ht, Hs6, Hg6, HB5, OwnX.nil _ _⟩
            case round =>
              clear Hs6 Hg6 HB5
              obtain ⟨V0b, hV0b⟩ : ∃ V, V = V0 := ⟨_, rfl⟩
              subst hV0b
              have HPb := mkHid HP.out
              have HXb := mkHid HX.out
              have HBb0 := mkHid HB.out
              have Hgb := mkHid Hgi.out
              clear HP HX HB Hgi hax
              obtain ⟨V0, hV0⟩ : ∃ V, V = Wb := ⟨_, rfl⟩
              subst hV0
              obtain ⟨k, ct, P, ot, ax, rfl, hk, hPk, hPk2, hax, HP, Hs0, Hgi0, HB0, HX0⟩ := hrel
              have hN := srcN g o c cp ax z 2 wr Hs0.out (HC.out.grown (gr_trans Hg2.out (gr_trans Hgb.out Hgi0.out)) (Nat.le_refl _)) (by omega) hl (by omega) (by omega)
              have hDw : Dk < wr.heap.size := hp_lt HB0.out
              go_wp2_with fail
              refine hN.mono ?_
              rintro e wN ⟨v, rfl, hv, hs2, hg2⟩
              have Hs := mkHid hs2
              have Hgi := mkHid (gr_trans Hgi0.out hg2)
              have HB : Hid (wN.heap[Dk]? = some (.cells #[.string nm, .slice ot P.length ct] 32 (0, 0))) := (hg2.block Dk hDw (by intro e; have := Option.some.inj e; omega)).trans HB0.out
              have HX := mkHid (HX0.out.sameX (Same.gr hg2 (by omega) (Nat.le_refl _)))
              clear hN hs2 hg2 Hs0 Hgi0 HB0 HX0 hDw
              obtain ⟨axN, haxN⟩ : ∃ q, q = ax + 1 := ⟨_, rfl⟩
              rw [← haxN] at Hs
              replace haxN : axN ≤ ax + 1 := by omega
              obtain ⟨wr, hwr⟩ : ∃ V, V = wN := ⟨_, rfl⟩
              subst hwr
              obtain ⟨ax, hax2⟩ : ∃ q, q = axN := ⟨_, rfl⟩
              subst hax2
              by_cases hlt : (k : Int) < 99 + (v : Int)
              · skip
                have hgr0 : g < wr.heap.size := Hs.out.lt
                have hBw : Dk < wr.heap.size := hp_lt HB.out
                have HB1 : Hid (wr.cell? ⟨Dk, 1, none⟩ = some (.slice ot P.length ct)) := by show _ = _; simp [World.cell?, HB.out]
                have HG : Hid (GoneBy wr g o c.length cp ax z 0 wr.drew) := ⟨gr_below (Below.refl _ _).drew, ax, by omega, Hs.out.below (Below.refl _ _).drew⟩
                have cD := mkHid (fun W => specDec k (by omega) W)
                have z1 := dec_len k
                obtain ⟨d1, hd1⟩ : ∃ d : ByteArray, ⟨(decDigits k).toArray⟩ = d := ⟨_, rfl⟩
                have hz1 : d1.size ≤ 110 := by rw [← hd1]; show (decDigits k).toArray.size ≤ 110; rw [List.size_toArray]; omega
                rw [hd1] at cD
                clear hd1 z1
                go_wp2
                obtain ⟨W0, hW0⟩ : ∃ V, V = wr := ⟨_, rfl⟩
                subst hW0
                refine wp_region_any (by kernel_rfl) ?_
                refine wpAny_phase 7 3 #[true, true, true, true, true, true, true, false, false, false] bhDst (fun x => rgAct [_, _, _, _, _, _, _, _, _, _, _, _, _, _, _, _, _, _, _, _, _, _, _, _, _, _, _, _, _, _, _, _, _, _, _, _, _, _, _, _, _, _, _, _, _, _, _, _, _, _, _, _, _, _, _, _, _, _, _, _, _, _, _] [x 63, x 64, x 65, x 66, x 67, x 68, x 69] [_, _, _, _, _, _, _, _, _, _, _, _, _, _, _, _, _, _, _, _, _, _, _, _, _, _]) (bgFact (.slice ot P.length ct) k Dk g W0.heap.size) (fun q w => GoneBy W0 g o c.length cp ax z q w) (fun w w' => w.grownBy w' (some g)) rfl rfl (by decide) rfl (by kernel_rfl) (by kernel_rfl) ?_ (bgFact.gr hgr0) ?hend ?hstep _ _ 0 (fun j => match j with | 63 => u63 | 64 => u64 | 65 => u65 | 66 => u66 | 67 => u67 | 68 => u68 | 69 => u69 | _ => undef) _ rfl rfl rfl (by intro j hj; simp [Array.getD]) ?_ HG.out ?_
                · intro i j hi hj hne
                  have e1 : ∀ q, q < 7 → ∀ r, r < 7 → q ≠ r → bhDst q ≠ bhDst r := by decide
                  exact e1 j hj i hi hne
                case hend =>
                  intro x wq hG hf
                  have f1 : x 64 = .slice ot P.length ct := hf 1 (by decide)
                  obtain ⟨b, t, e4, hb, hbk, hft⟩ := hf 6 (by decide)
                  have e4' : x 69 = .slice (some ⟨b, 0, none⟩) 1 1 := e4
                  obtain ⟨hgq, a2, ha2, hs2⟩ := hG
                  have HXq : OwnX (Dk + 1) (.slice ot P.length ct) P wq := HX.out.sameX (Same.gr hgq (by omega) (Nat.le_refl _))
                  have hsq : Dk + 1 ≤ wq.heap.size := Nat.le_trans hBw hgq.size
                  have hcel : wq.cell? ⟨b, 0, none⟩ = some (.string t) := by simp [World.cell?, hbk]
                  have HBq : wq.heap[Dk]? = some (.cells #[.string nm, .slice ot P.length ct] 32 (0, 0)) := by
                    rw [hgq.block Dk hBw (by intro e; have := Option.some.inj e; omega)]
                    exact HB.out
                  have hblk : ∀ q, (Value.slice ot P.length ct).ownBlock = some q → Dk + 1 ≤ q := fun q hq => (World.ownsRow.lt HX.out q hq).1
                  have Hgq := mkHid (gr_trans Hgi.out hgq)
                  clear hf e4 hbk
                  refine wpAny_ready (rs := [7]) (by kernel_rfl) (by simp) ?_
                  refine AllReady.cons rfl (fun K hK => ?_) AllReady.nil
                  rw [if_pos (by rfl)]
                  refine opAppXd _ _ rfl (Dk + 1) (.slice ot P.length ct) P f1 HXq t b 1 e4' hcel (by omega) hsq ?_
                  intro v' w' hO' hG'
                  refine hK _ _ ?_
                  clear hK K
                  have hs3 : Src w' g o c.length cp a2 z := hs2.row hG' (fun q hq => by have := hblk q hq; omega)
                  have hg3 : V0.grownBy w' (some g) := gr_row Hgq.out hG' (fun q hq => by have := hblk q hq; omega)
                  have hB3 : w'.heap[Dk]? = some (.cells #[.string nm, .slice ot P.length ct] 32 (0, 0)) := by
                    rw [hG'.block Dk (by omega) (fun e => by have := hblk Dk e.symm; omega)]
                    exact HBq
                  obtain ⟨o2, c2, rfl⟩ := hO'.shape
                  have hc3 : w'.cell? ⟨Dk, 1, none⟩ = some (.slice ot P.length ct) := by simp [World.cell?, hB3]
                  have hf3 : w'.frozen? ⟨Dk, 1, none⟩ = false := by simp [World.frozen?, hB3]
                  have HP2 : Hid (∀ q ∈ P ++ [t], q.size ≤ 121) := by
                    intro q hq
                    rcases List.mem_append.1 hq with hq | hq
                    · exact HP.out q hq
                    · simp only [List.mem_cons, List.not_mem_nil, or_false] at hq
                      subst hq
                      exact hft
                  have hP2 : (P ++ [t]).length ≤ P.length + 1 := by simp
                  have hP3 : P.length + 1 ≤ (P ++ [t]).length := by simp
                  obtain ⟨P2, hPe⟩ : ∃ P2, P ++ [t] = P2 := ⟨_, rfl⟩
                  rw [hPe] at HP2 hP2 hP3 hO' ⊢
                  clear hPe
                  have HB4 : Hid ((w'.setCell ⟨Dk, 1, none⟩ (.slice o2 P2.length c2)).heap[Dk]? = some (.cells #[.string nm, .slice o2 P2.length c2] 32 (0, 0))) := by show _ = _; simp [World.setCell, Array.getElem?_modify, hB3]
                  have HX4 : Hid (OwnX (Dk + 1) (.slice o2 P2.length c2) P2 (w'.setCell ⟨Dk, 1, none⟩ (.slice o2 P2.length c2))) := row_stay hO' (fun q hq => by
                    have := (World.ownsRow.lt hO' q hq).1
                    simp [World.setCell, Array.getElem?_modify, show Dk ≠ q by omega])
                  have Hs4 := mkHid (hs3.setC (b := Dk) (j := 1) (v := .slice o2 P2.length c2) (by omega))
                  have Hg4 := mkHid (gr_setC (b := Dk) (j := 1) (v := .slice o2 P2.length c2) hg3 (by omega))
                  clear hO' hG' HXq hcel hs2 hgq hs3 hg3 hB3 HBq HX HB HB1 HP Hgq cD HG
                  show wpAny _ _ _ _ 2 _ (rgAct [_, _, _, _, _, _, _, _, _, _, _, _, _, _, _, _, _, _, _, _, _, _, _, _, _, _, _, _, _, _, _, _, _, _, _, _, _, _, _, _, _, _, _, _, _, _, _, _, _, _, _, _, _, _, _, _, _, _, _, _, _, _, _] [x 63, x 64, x 65, x 66, x 67, x 68, x 69] (.slice o2 P2.length c2 :: [_, _, _, _, _, _, _, _, _, _, _, _, _, _, _, _, _, _, _, _, _, _, _, _, _])) _
                  generalize x 63 = y63
                  generalize x 64 = y64
                  generalize x 65 = y65
                  generalize x 66 = y66
                  generalize x 67 = y67
                  generalize x 68 = y68
                  generalize x 69 = y69
                  go_simp
                  refine wpAny_ready (rs := [8]) (by kernel_rfl) (by simp) ?_
                  refine AllReady.cons rfl (fun K hK => ?_) AllReady.nil
                  go_simp
                  refine hK _ _ ?_
                  clear hK K
                  go_simp
                  refine wpAny_ready (rs := [9]) (by kernel_rfl) (by simp) ?_
                  refine AllReady.cons rfl (fun K hK => ?_) AllReady.nil
                  go_simp
                  refine hK _ _ ?_
                  clear hK K
                  go_simp
                  refine wpAny_done (by kernel_rfl) ?_ _
                  go_simp
                  go_wp2
                  go_roundw
                  case rel => exact ⟨k + 1, c2, P2, o2, a2, by go_num, by omega, by omega, by omega, by omega, HP2, Hs4, Hg4, HB4, HX4⟩
                  case measure => simp [Lib.intOf]; omega
                case hstep =>
                  clear HX HP HB Hs
                  intro k2 x L wr i hil hkl hG hi hf
                  rcases (show i = 0 ∨ i = 1 ∨ i = 2 ∨ i = 3 ∨ i = 4 ∨ i = 5 ∨ i = 6 by omega) with rfl | rfl | rfl | rfl | rfl | rfl | rfl
                  · clear hi hf
                    refine wpOp_step rfl (fun K hK => ?_)
                    go_simp
                    exact hK _ _ ⟨.pointer (some ⟨Dk, 1, none⟩), by simp [put, bhDst], rfl, gr_refl _ _, hG.still (Below.refl _ _)⟩
                  · have e0 : x 63 = .pointer (some ⟨Dk, 1, none⟩) := hf 0 (by omega) (ready_dep hi rfl 0 (by kernel_rfl))
                    clear hi hf
                    have hcel : wr.cell? ⟨Dk, 1, none⟩ = some (.slice ot P.length ct) := gr_cell hG.1 (show Dk ≠ g by omega) HB1.out
                    refine wpOp_step rfl (fun K hK => ?_)
                    go_simp
                    exact hK _ _ ⟨.slice ot P.length ct, by simp [put, bhDst, e0], rfl, gr_refl _ _, hG.still (Below.refl _ _)⟩
                  · clear hi hf
                    refine wpOp_step rfl (fun K hK => ?_)
                    go_simp
                    exact hK _ _ ⟨.int .i64 (k : Int), by simp [put, bhDst], rfl, gr_refl _ _, hG.still (Below.refl _ _)⟩
                  · have e0 : x 65 = .int .i64 (k : Int) := hf 2 (by omega) (ready_dep hi rfl 2 (by kernel_rfl))
                    clear hi hf
                    refine wpOp_step rfl (fun K hK => ?_)
                    go_simp
                    refine (cD.out _).mono ?_
                    rintro e w2 ⟨rfl, hb2⟩
                    go_simp
                    exact hK _ _ ⟨.string d1, by simp [put, bhDst, e0], ⟨d1, rfl, hz1⟩, gr_below hb2, hG.still hb2⟩
                  · have f3 := hf 3 (by omega) (ready_dep hi rfl 3 (by kernel_rfl))
                    clear hi hf
                    obtain ⟨t, e0, hts⟩ := f3
                    have e0' : x 66 = .string t := e0
                    have n0 : ¬ 9223372036854775807 < 1 + t.size := by omega
                    clear e0
                    refine wpOp_step rfl (fun K hK => ?_)
                    go_simp
                    exact hK _ _ ⟨.string (⟨#[118]⟩ ++ t), by simp [put, bhDst, e0'], ⟨_, rfl, by rw [ByteArray.size_append]; show 1 + t.size ≤ 111; omega⟩, gr_refl _ _, hG.still (Below.refl _ _)⟩
                  · have f3 := hf 4 (by omega) (ready_dep hi rfl 4 (by kernel_rfl))
                    clear hi hf
                    obtain ⟨t, e0, hts⟩ := f3
                    have e0' : x 67 = .string t := e0
                    have n0 : ¬ 9223372036854775807 < t.size + 10 := by omega
                    clear e0
                    refine wpOp_step rfl (fun K hK => ?_)
                    go_simp
                    exact hK _ _ ⟨.string (t ++ ⟨#[64, 120, 46, 101, 120, 97, 109, 112, 108, 101]⟩), by simp [put, bhDst, e0'], ⟨_, rfl, by rw [ByteArray.size_append]; exact Nat.add_le_add_right hts 10⟩, gr_refl _ _, hG.still (Below.refl _ _)⟩
                  · have f3 := hf 5 (by omega) (ready_dep hi rfl 5 (by kernel_rfl))
                    clear hi hf
                    obtain ⟨t, e0, ht⟩ := f3
                    have e0' : x 68 = .string t := e0
                    clear e0
                    refine wpOp_step rfl (fun K hK => ?_)
                    go_simp
                    have hbb : ∀ cs, Below wr.heap.size wr (wr.alloc (.cells cs 9)) := fun cs => (Below.refl _ _).alloc (Nat.le_refl _) _
                    exact hK _ _ ⟨.slice (some ⟨wr.heap.size, 0, none⟩) 1 1, by simp [put, bhDst, e0'], ⟨wr.heap.size, t, rfl, hG.1.size, hp_alloc _ _, ht⟩, gr_below (hbb _), hG.still (hbb _)⟩
                · intro k2 j hk2
                  simp [Array.getD] at hk2
                · intro j hj hd
                  simp [Array.getD] at hd
              · have hPn : 0 < P.length := by omega
                obtain ⟨gd, hgdl, hshape, hgdh⟩ : ∃ gd, Dk + 1 ≤ gd ∧ ot = some ⟨gd, 0, none⟩ ∧ ∃ cur, wr.heap[gd]? = some (.cells cur 9 (0, 0)) := by
                  rcases HX.out.2 with ⟨hv, h0⟩ | ⟨gd, cap, cur, hv, hBd, hgd, -⟩
                  · omega
                  · simp only [Value.slice.injEq] at hv
                    exact ⟨gd, hBd, hv.1, cur, hgd⟩
                subst hshape
                obtain ⟨cur, hgdc⟩ := hgdh
                have hc0 : wr.cell? ⟨gd, 0, none⟩ = some (.string P[0]) := by
                  have := World.ownsRow.cells HX.out (g := gd) rfl 0 (.string P[0]) (by simp [strCellsX, hPn])
                  simpa [Addr.add] using this
                have hf0 : wr.frozen? ⟨gd, 0, none⟩ = false := by simp [World.frozen?, hgdc]
                have hcD : wr.cell? ⟨Dk, 1, none⟩ = some (.slice (some ⟨gd, 0, none⟩) P.length ct) := by simp [World.cell?, HB.out]
                obtain ⟨hst, hsg⟩ := World.ownsRow.stored HX.out 0 (.string ⟨#[98, 105, 103, 64, 97, 46, 101, 120, 97, 109, 112, 108, 101]⟩)
                obtain ⟨W0, hW0⟩ : ∃ V, wr.setCell ⟨gd, 0, none⟩ (.string ⟨#[98, 105, 103, 64, 97, 46, 101, 120, 97, 109, 112, 108, 101]⟩) = V := ⟨_, rfl⟩
                rw [hW0] at hst hsg
                have hDw : Dk < wr.heap.size := hp_lt HB.out
                have hVw : V0.heap.size ≤ wr.heap.size := Hgi.out.size
                obtain ⟨P2, hP2⟩ : ∃ P2, P.set 0 ⟨#[98, 105, 103, 64, 97, 46, 101, 120, 97, 109, 112, 108, 101]⟩ = P2 := ⟨_, rfl⟩
                have hP2l : Hid (P2.length = P.length) := by show _ = _; rw [← hP2]; simp
                have HXd : Hid (OwnX (Dk + 1) (.slice (some ⟨gd, 0, none⟩) P2.length ct) P2 W0) := by
                  unfold OwnX
                  rw [hP2l.out, ← hP2]
                  unfold strCellsX
                  rw [List.map_set]
                  exact hst
                have HPd : Hid (∀ t ∈ P2, t.size ≤ 121) := by
                  intro t ht
                  rw [← hP2] at ht
                  rcases List.mem_or_eq_of_mem_set ht with h | h
                  · exact HP.out t h
                  · rw [h]; decide
                have HBd : Hid (W0.heap[Dk]? = some (.cells #[.string nm, .slice (some ⟨gd, 0, none⟩) P2.length ct] 32 (0, 0))) := by
                  rw [hP2l.out]
                  exact (hsg.block Dk hDw (by intro e; have := Option.some.inj e; omega)).trans HB.out
                have HgW : Hid (V0.grownBy W0 (some g)) := by
                  rw [← hW0]
                  exact gr_setC Hgi.out (by omega)
                have HBb : Hid (W0.heap[Bk]? = some (.cells #[.string nb, .slice otb Pb.length ctb] 32 (0, 0))) := (HgW.out.block Bk hBb (by intro e; have := Option.some.inj e; omega)).trans HBb0.out
                have HsW : Hid (Src W0 g o c.length cp ax z) := by
                  rw [← hW0]
                  exact Hs.out.setC (by omega)
                have HgA := mkHid (gr_trans Hg2.out (gr_trans Hgb.out HgW.out))
                have HAW := mkHid ((HA2.out.gr Hgb.out hgl).gr HgW.out hgl)
                have HXbW := mkHid (HXb.out.sameX (Same.gr HgW.out (by omega) (Nat.le_refl _)))
                have hDkW : Dk < W0.heap.size := hp_lt HBd.out
                have hBkW : Bk < W0.heap.size := hp_lt HBb.out
                have hgW : g < W0.heap.size := HsW.out.lt
                have HCW : Hid (Code g W0 o c) := HC.out.grown HgA.out (Nat.le_refl _)
                have HG : Hid (GoneBy W0 g o c.length cp ax z 0 W0.drew) := ⟨gr_below (Below.refl _ _).drew, ax, by omega, HsW.out.below (Below.refl _ _).drew⟩
                have HW0 := mkHid hW0
                have hPl2 : P2.length ≤ 100 := by rw [hP2l.out]; omega
                clear hW0 hst hsg hP2 HX HB HP Hs Hgi hgdc HXb HBb0 HA2
                go_wp2
                rw [HW0.out]
                refine wp_region_any (by kernel_rfl) ?_
                refine wpAny_phase 10 3 #[true, true, true, true, true, true, true, true, true, true, false, false, false] biDst (fun x => rgAct [_, _, _, _, _, _, _, _, _, _, _, _, _, _, _, _, _, _, _, _, _, _, _, _, _, _, _, _, _, _, _, _, _, _, _, _, _, _, _, _, _, _, _, _, _, _, _, _, _, _, _, _, _, _, _, _, _, _, _, _, _, _, _, _, _, _, _, _, _, _, _, _, _, _, _] [x 75, x 76, x 77, x 78, x 79, x 80, x 81, x 82, x 83, x 84] [_, _, _, _, _, _, _, _, _, _, _]) (biFact v0 (.slice otb Pb.length ctb) (.slice (some ⟨gd, 0, none⟩) P2.length ct) nb nm g W0.heap.size) (fun q w => GoneBy W0 g o c.length cp ax z q w) (fun w w' => w.grownBy w' (some g)) rfl rfl (by decide) rfl (by kernel_rfl) (by kernel_rfl) ?_ (biFact.gr hgW) ?hend ?hstep _ _ 0 (fun _ => undef) _ rfl rfl rfl (by intro j hj; simp [Array.getD]) ?_ HG.out ?_
                · intro i j hi hj hne
                  have e1 : ∀ q, q < 10 → ∀ r, r < 10 → q ≠ r → biDst q ≠ biDst r := by decide
                  exact e1 j hj i hi hne
                case hend =>
                  intro x wq hG hf
                  have f0 : x 75 = v0 := hf 0 (by decide)
                  obtain ⟨b, b3, kk, e9, hb, hbk, hk1, hk2, hb3, hbk3⟩ := hf 9 (by decide)
                  have e9' : x 84 = .slice (some ⟨b, 0, none⟩) 3 3 := e9
                  obtain ⟨hgq, a2, ha2, hs2⟩ := hG
                  have HAq := HAW.out.gr hgq hgl
                  have Hgq := mkHid (gr_trans HgA.out hgq)
                  have hsq : w1.heap.size ≤ wq.heap.size := Hgq.out.size
                  have hw1W : w1.heap.size ≤ W0.heap.size := HgA.out.size
                  obtain ⟨four, hfour⟩ : ∃ l : List ByteArray, l = [⟨#[98, 105, 103, 50, 64, 97, 46, 101, 120, 97, 109, 112, 108, 101]⟩, ⟨#[120, 64, 121]⟩, ⟨#[122, 64, 121]⟩, ⟨#[119, 64, 121]⟩] := ⟨_, rfl⟩
                  have X3 : OwnX w1.heap.size (.slice (some ⟨b3, 0, none⟩) kk 4) (four.take kk) wq := by
                    have hl4 : (four.take kk).length = kk := by rw [hfour, List.length_take]; simp; omega
                    unfold OwnX
                    rw [hl4]
                    refine ⟨by rw [Nat.mul_one]; simp only [strCellsX, List.length_map]; exact hl4, .inr ⟨b3, 4, _, rfl, by omega, hbk3, by omega, by decide, rfl, ?_⟩⟩
                    rw [hfour]
                    unfold strCellsX
                    rw [List.map_take, Nat.mul_one]
                    rfl
                  have HXq1 := HXbW.out.sameX (Same.gr hgq (by omega) (Nat.le_refl _))
                  have HXq2 := HXd.out.sameX (Same.gr hgq (by omega) (Nat.le_refl _))
                  obtain ⟨R, hR⟩ : ∃ R : List AlE, R = [(⟨nb, Pb⟩, .slice otb Pb.length ctb), (⟨nm, P2⟩, .slice (some ⟨gd, 0, none⟩) P2.length ct), (⟨⟨#[98, 105, 103, 51, 64, 97, 46, 101, 120, 97, 109, 112, 108, 101]⟩, four.take kk⟩, .slice (some ⟨b3, 0, none⟩) kk 4)] := ⟨_, rfl⟩
                  have hRo : ∀ e ∈ R, OwnX w1.heap.size e.2 e.1.toF wq := by
                    intro e he
                    rw [hR] at he
                    simp only [List.mem_cons, List.not_mem_nil, or_false] at he
                    rcases he with rfl | rfl | rfl
                    · exact HXq1.baseA (by omega)
                    · exact HXq2.baseA (by omega)
                    · exact X3
                  have hRc : ∀ j u, (alCells R)[j]? = some u → wq.cell? ((⟨b, 0, none⟩ : Addr).add j) = some u := by
                    intro j u hj
                    rw [Addr.add_lit, Nat.zero_add]
                    rw [hR] at hj
                    match j, hj with
                    | 0, hj => cases hj; simp [World.cell?, hbk]
                    | 1, hj => cases hj; simp [World.cell?, hbk]
                    | 2, hj => cases hj; simp [World.cell?, hbk]
                    | 3, hj => cases hj; simp [World.cell?, hbk]
                    | 4, hj => cases hj; simp [World.cell?, hbk]
                    | 5, hj => cases hj; simp [World.cell?, hbk]
                  have hRf : ∀ e ∈ R, e.1.fits 1000 := by
                    intro e he
                    rw [hR] at he
                    simp only [List.mem_cons, List.not_mem_nil, or_false] at he
                    rcases he with rfl | rfl | rfl
                    · exact ⟨by show nb.size ≤ 1000; omega, by show Pb.length ≤ 1000; omega, fun t ht => by have := HPb.out t ht; omega⟩
                    · exact ⟨by show nm.size ≤ 1000; omega, by show P2.length ≤ 1000; omega, fun t ht => by have := HPd.out t ht; omega⟩
                    · refine ⟨by show ByteArray.size ⟨#[98, 105, 103, 51, 64, 97, 46, 101, 120, 97, 109, 112, 108, 101]⟩ ≤ 1000; decide, ?_, ?_⟩
                      · show (four.take kk).length ≤ 1000
                        rw [List.length_take]
                        omega
                      · intro t ht
                        have ht2 : t ∈ four := List.mem_of_mem_take ht
                        rw [hfour] at ht2
                        simp only [List.mem_cons, List.not_mem_nil, or_false] at ht2
                        rcases ht2 with rfl | rfl | rfl | rfl <;> decide
                  have hRl : R.length = 3 := by rw [hR]; rfl
                  have hblk : ∀ q, v0.ownBlock = some q → w1.heap.size ≤ q := fun q hq => (World.ownsRow.lt HAq.row q hq).1
                  clear hf e9 hbk hbk3 hR hfour X3
                  refine wpAny_ready (rs := [10]) (by kernel_rfl) (by simp) ?_
                  refine AllReady.cons rfl (fun K hK => ?_) AllReady.nil
                  rw [if_pos (by rfl)]
                  refine opAppA _ _ rfl w1.heap.size v0 E0 f0 HAq R ⟨b, 0, none⟩ 3 3 e9' hRl.symm hRc hRo (by omega) hsq ?_
                  intro v' w' hA' hG'
                  refine hK _ _ ?_
                  clear hK K
                  have HgF := mkHid (gr_row Hgq.out hG' hblk)
                  have HAF := mkHid hA'
                  have HTF : Hid (∀ e ∈ E0 ++ R, e.1.fits 1000) := by
                    intro e he
                    rcases List.mem_append.1 he with he | he
                    · exact HT0.out e he
                    · exact hRf e he
                  have hEF : (E0 ++ R).length ≤ 100 := by rw [List.length_append]; omega
                  clear hA' hG' hRc hRo hRf HAq HXq1 HXq2 HXd HXbW HBd HBb HG HAW
                  generalize E0 ++ R = E2 at *
                  show wpAny _ _ _ _ 2 _ (rgAct [_, _, _, _, _, _, _, _, _, _, _, _, _, _, _, _, _, _, _, _, _, _, _, _, _, _, _, _, _, _, _, _, _, _, _, _, _, _, _, _, _, _, _, _, _, _, _, _, _, _, _, _, _, _, _, _, _, _, _, _, _, _, _, _, _, _, _, _, _, _, _, _, _, _, _] [x 75, x 76, x 77, x 78, x 79, x 80, x 81, x 82, x 83, x 84] (v' :: [_, _, _, _, _, _, _, _, _, _])) _
                  generalize x 75 = y75
                  generalize x 76 = y76
                  generalize x 77 = y77
                  generalize x 78 = y78
                  generalize x 79 = y79
                  generalize x 80 = y80
                  generalize x 81 = y81
                  generalize x 82 = y82
                  generalize x 83 = y83
                  generalize x 84 = y84
                  go_simp
                  refine wpAny_take (i := 11) (v := v') rfl (by kernel_rfl) (by kernel_rfl) (by kernel_rfl) (fun _ _ _ h => h) (Or.inl ⟨by rfl, ?_⟩) ?_
                  · intro w
                    go_simp
                  go_simp
                  refine wpAny_ready (rs := [12]) (by kernel_rfl) (by simp) ?_
                  refine AllReady.cons rfl (fun K hK => ?_) AllReady.nil
                  go_simp
                  refine hK _ _ ?_
                  clear hK K
                  go_simp
                  refine wpAny_done (by kernel_rfl) ?_ _
                  go_simp
                  go_wp2
                  go_ret2
                  exact ⟨v', E2, _, rfl, hEF, HTF.out, HAF.out.base Hsz0.out, by decide, Hgr.out Hb0.out HgF.out⟩
                case hstep =>
                  intro k2 x L wr i hil hkl hG hi hf
                  rcases (show i = 0 ∨ i = 1 ∨ i = 2 ∨ i = 3 ∨ i = 4 ∨ i = 5 ∨ i = 6 ∨ i = 7 ∨ i = 8 ∨ i = 9 by omega) with rfl | rfl | rfl | rfl | rfl | rfl | rfl | rfl | rfl | rfl
                  · clear hi hf
                    refine wpOp_step rfl (fun K hK => ?_)
                    go_simp
                    exact hK _ _ ⟨v0, by simp [put, biDst], rfl, gr_refl _ _, hG.still (Below.refl _ _)⟩
                  · clear hi hf
                    have hBq : wr.heap[Bk]? = some (.cells #[.string nb, .slice otb Pb.length ctb] 32 (0, 0)) := (hG.1.block Bk hBkW (by intro e; have := Option.some.inj e; omega)).trans HBb.out
                    refine wpOp_step rfl (fun K hK => ?_)
                    rw [if_pos (by rfl)]
                    refine wp_load_row 32 _ rfl Bk rfl 32 _ (0, 0) _ hBq Tryz.underlying32 rfl (by kernel_rfl) ?_
                    exact hK _ _ ⟨.agg #[.string nb, .slice otb Pb.length ctb], by simp [put, biDst, Act.put], rfl, gr_refl _ _, hG.still (Below.refl _ _)⟩
                  · clear hi hf
                    have hBq : wr.heap[Dk]? = some (.cells #[.string nm, .slice (some ⟨gd, 0, none⟩) P2.length ct] 32 (0, 0)) := (hG.1.block Dk hDkW (by intro e; have := Option.some.inj e; omega)).trans HBd.out
                    refine wpOp_step rfl (fun K hK => ?_)
                    rw [if_pos (by rfl)]
                    refine wp_load_row 32 _ rfl Dk rfl 32 _ (0, 0) _ hBq Tryz.underlying32 rfl (by kernel_rfl) ?_
                    exact hK _ _ ⟨.agg #[.string nm, .slice (some ⟨gd, 0, none⟩) P2.length ct], by simp [put, biDst, Act.put], rfl, gr_refl _ _, hG.still (Below.refl _ _)⟩
                  · clear hi hf
                    refine wpOp_step rfl (fun K hK => ?_)
                    go_simp
                    have hbb : ∀ cs, Below wr.heap.size wr (wr.alloc (.cells cs 9)) := fun cs => (Below.refl _ _).alloc (Nat.le_refl _) _
                    exact hK _ _ ⟨.slice (some ⟨wr.heap.size, 0, none⟩) 4 4, by simp [put, biDst], ⟨wr.heap.size, rfl, hG.1.size, hp_alloc _ _⟩, gr_below (hbb _), hG.still (hbb _)⟩
                  · clear hi hf
                    refine wpOp_step rfl (fun K hK => ?_)
                    go_simp
                    exact hK _ _ ⟨.pointer (some ⟨g, 0, none⟩), by simp [put, biDst], rfl, gr_refl _ _, hG.still (Below.refl _ _)⟩
                  · have e0 : x 79 = .pointer (some ⟨g, 0, none⟩) := hf 4 (by omega) (ready_dep hi rfl 4 (by kernel_rfl))
                    clear hi hf
                    obtain ⟨hgr, a1, ha1, hs1⟩ := hG
                    have hN := srcN g o c cp a1 z 4 wr hs1 (HCW.out.grown hgr (Nat.le_refl _)) (by omega) hl (by omega) (by omega)
                    refine wpOp_step rfl (fun K hK => ?_)
                    go_simp
                    refine hN.mono ?_
                    rintro e w2 ⟨v, rfl, hv, hs2, hg2⟩
                    go_simp
                    exact hK _ _ ⟨.int .i64 (v : Int), by simp [put, biDst, e0], ⟨v, rfl, Nat.zero_le _, by omega⟩, hg2, gr_trans hgr hg2, a1 + 1, by omega, hs2⟩
                  · have f3 := hf 5 (by omega) (ready_dep hi rfl 5 (by kernel_rfl))
                    clear hi hf
                    obtain ⟨k2, e0, -, hk2⟩ := f3
                    have e0' : x 80 = .int .i64 k2 := e0
                    have wk : IntKind.i64.wrap (1 + (k2 : Int)) = 1 + (k2 : Int) := wrap_inX _ (by omega) (by omega)
                    clear e0
                    refine wpOp_step rfl (fun K hK => ?_)
                    go_simp
                    exact hK _ _ ⟨.int .i64 (1 + (k2 : Int)), by simp [put, biDst, e0'], ⟨1 + k2, by go_num, by omega, by omega⟩, gr_refl _ _, hG.still (Below.refl _ _)⟩
                  · have f3 := hf 3 (by omega) (ready_dep hi rfl 3 (by kernel_rfl))
                    have f6 := hf 6 (by omega) (ready_dep hi rfl 6 (by kernel_rfl))
                    clear hi hf
                    obtain ⟨b, e0, hb, hbk⟩ := f3
                    obtain ⟨k2, e1, hk1, hk2⟩ := f6
                    have e0' : x 78 = .slice (some ⟨b, 0, none⟩) 4 4 := e0
                    have e1' : x 81 = .int .i64 k2 := e1
                    have q1 : (k2 : Int) ≤ 4 := by omega
                    clear e0 e1
                    refine wpOp_step rfl (fun K hK => ?_)
                    go_simp
                    exact hK _ _ ⟨.slice (some ⟨b, 0, none⟩) k2 4, by simp [put, biDst, e0', e1'], ⟨b, k2, rfl, hk1, hk2, hb, hbk⟩, gr_refl _ _, hG.still (Below.refl _ _)⟩
                  · have f7 := hf 7 (by omega) (ready_dep hi rfl 7 (by kernel_rfl))
                    clear hi hf
                    obtain ⟨b, k2, e0, hk1, hk2, hb, hbk⟩ := f7
                    have e0' : x 82 = .slice (some ⟨b, 0, none⟩) k2 4 := e0
                    clear e0
                    refine wpOp_step rfl (fun K hK => ?_)
                    go_simp
                    exact hK _ _ ⟨.agg #[.string ⟨#[98, 105, 103, 51, 64, 97, 46, 101, 120, 97, 109, 112, 108, 101]⟩, .slice (some ⟨b, 0, none⟩) k2 4], by simp [put, biDst, e0'], ⟨b, k2, rfl, hk1, hk2, hb, hbk⟩, gr_refl _ _, hG.still (Below.refl _ _)⟩
                  · have f1 := hf 1 (by omega) (ready_dep hi rfl 1 (by kernel_rfl))
                    have f2 := hf 2 (by omega) (ready_dep hi rfl 2 (by kernel_rfl))
                    have f8 := hf 8 (by omega) (ready_dep hi rfl 8 (by kernel_rfl))
                    clear hi hf
                    obtain ⟨b3, k2, e2, hk1, hk2, hb, hbk⟩ := f8
                    have e0' : x 76 = .agg #[.string nb, .slice otb Pb.length ctb] := f1
                    have e1' : x 77 = .agg #[.string nm, .slice (some ⟨gd, 0, none⟩) P2.length ct] := f2
                    have e2' : x 83 = .agg #[.string ⟨#[98, 105, 103, 51, 64, 97, 46, 101, 120, 97, 109, 112, 108, 101]⟩, .slice (some ⟨b3, 0, none⟩) k2 4] := e2
                    clear e2 f1 f2
                    refine wpOp_step rfl (fun K hK => ?_)
                    go_simp
                    have hbb : ∀ cs, Below wr.heap.size wr (wr.alloc (.cells cs 32)) := fun cs => (Below.refl _ _).alloc (Nat.le_refl _) _
                    exact hK _ _ ⟨.slice (some ⟨wr.heap.size, 0, none⟩) 3 3, by simp [put, biDst, e0', e1', e2'], ⟨wr.heap.size, b3, k2, rfl, hG.1.size, hp_alloc _ _, hk1, hk2, hb, ((hbb _).block b3 (hp_lt hbk)).trans hbk⟩, gr_below (hbb _), hG.still (hbb _)⟩
                · intro k2 j hk2
                  simp [Array.getD] at hk2
                · intro j hj hd
                  simp [Array.getD] at hd
    | false =>
      have hO1 := srcOne g o c cp (a1 + 1 + 1) z 12 w4 Hs2.out (HC.out.grown Hg2.out (Nat.le_refl _)) (by omega) hl (by omega) (by omega)
      go_wp2_with fail
      refine hO1.mono ?_
      rintro e w5 ⟨b3, rfl, hs3, hg3⟩
      replace Hs2 := mkHid hs3
      replace HA2 := mkHid (HA2.out.gr hg3 hgl)
      replace Hg2 := mkHid (gr_trans Hg2.out hg3)
      clear hO1 hs3 hg3
      have hK := srcKeyE g o c cp (a1 + 1 + 1 + 1) z w5 Hs2.out (HC.out.grown Hg2.out (Nat.le_refl _)) (by omega) hl
      cases b3 with
      | true =>
        go_wp2_with fail
        refine hK.mono ?_
        rintro e w6 ⟨t, a6, rfl, ht, ha6, hs3, hg3⟩
        replace Hs2 := mkHid hs3
        replace HA2 := mkHid (HA2.out.gr hg3 hgl)
        replace Hg2 := mkHid (gr_trans Hg2.out hg3)
        clear hK hs3 hg3
        have hP := srcSpoil g o c cp a6 z t w6 Hs2.out (HC.out.grown Hg2.out (Nat.le_refl _)) (by omega) hl (by omega)
        go_wp2_with fail
        refine hP.mono ?_
        rintro e w7 ⟨q, a7, rfl, hq, ha7, hs3, hg3⟩
        replace HA2 := mkHid (HA2.out.gr hg3 hgl)
        replace Hg2 := mkHid (gr_trans Hg2.out hg3)
        clear hP hs3 hg3
        go_wp2
        go_ret2
        exact ⟨_, E0, q, rfl, by omega, HT0.out, HA2.out.base Hsz0.out, by omega, Hgr.out Hb0.out Hg2.out⟩
      | false =>
        go_wp2_with fail
        refine hK.mono ?_
        rintro e w6 ⟨t, a6, rfl, ht, ha6, hs3, hg3⟩
        replace HA2 := mkHid (HA2.out.gr hg3 hgl)
        replace Hg2 := mkHid (gr_trans Hg2.out hg3)
        clear hK hs3 hg3
        go_wp2
        go_ret2
        exact ⟨_, E0, t, rfl, by omega, HT0.out, HA2.out.base Hsz0.out, by omega, Hgr.out Hb0.out Hg2.out⟩
end Go.Proofs.YtdjghniinnfncaaGreatDoor
