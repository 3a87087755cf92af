
/- The specification's WriteAddresses, exact. -/
import Derived.Test.YtadoifnfgoonaaaGreatDoorSpecPlainX
namespace Go.Proofs.YtadoifnfgoonaaaGreatDoor
open Go.RowKit Go.Lib Go.Maps
set_option maxRecDepth 20000 in
theorem own_not_blockX {w : World} {B Bk : Nat} {v : Value} {p : List UInt8} {cs : Array Value} {t : TypeId} {fz : Nat × Nat} (h : Own B v p w) (hb : w.heap[Bk]? = some (.cells cs t fz)) (ht : t ≠ 5) : v.ownBlock ≠ some Bk := by
  rcases h.2 with ⟨rfl, -⟩ | ⟨g, cap, cur, rfl, -, hg, -⟩
  · simp [Value.ownBlock]
  · intro e
    have e2 : g = Bk := by simpa [Value.ownBlock] using e
    rw [e2, hb] at hg
    simp only [Option.some.injEq, Obj.cells.injEq] at hg
    exact ht hg.2.1
set_option maxRecDepth 20000 in
theorem boxT_sizeX {n l d : ByteArray} (h : n.size ≤ 66 ∧ l.size ≤ 66 ∧ d.size ≤ 66) : (boxT n l d).size ≤ 338 := by
  have := boxT_len n l d
  omega
set_option maxRecDepth 20000 in
theorem addr_casesX (n l d : ByteArray) : (dcode (addrOk n l d) = 0 ∧ addrOk n l d = true) ∨ (¬ dcode (addrOk n l d) = 0 ∧ addrOk n l d = false) := by
  cases addrOk n l d
  · exact .inr ⟨by decide, rfl⟩
  · exact .inl ⟨rfl, rfl⟩
def Bx3.sml (b : Bx3) : Prop := b.n.size ≤ 66 ∧ b.l.size ≤ 66 ∧ b.d.size ≤ 66
def En.sml (e : En) : Prop := e.nm.size ≤ 20 ∧ (e.n.size ≤ 66 ∧ e.l.size ≤ 66 ∧ e.d.size ≤ 66) ∧ e.mem.length ≤ 3 ∧ ∀ b ∈ e.mem, b.sml
set_option maxRecDepth 20000 in
theorem enOk_box (nm n l d : ByteArray) (M : List Bx3) : enOk ⟨false, nm, n, l, d, M⟩ = (addrOk n l d && (decide (nm.size = 0) && decide (M.length = 0))) := rfl
set_option maxRecDepth 20000 in
theorem enOk_group (nm n l d : ByteArray) (M : List Bx3) : enOk ⟨true, nm, n, l, d, M⟩ = (decide (nm.size ≠ 0) && (decide (nm.size ≤ 200) && (nm.data.toList.all Pl.tb && (decide (n.size = 0 ∧ l.size = 0 ∧ d.size = 0) && M.all bxOk)))) := rfl
set_option maxRecDepth 20000 in
theorem enT_box (nm n l d : ByteArray) (M : List Bx3) : enT ⟨false, nm, n, l, d, M⟩ = (boxT n l d).data.toList := rfl
set_option maxRecDepth 20000 in
theorem enT_groupX (nm n l d : ByteArray) (M : List Bx3) : enT ⟨true, nm, n, l, d, M⟩ = (phr nm).data.toList ++ 58 :: (mbT M ++ [59]) := rfl
section
variable {nm n l d : ByteArray} {M : List Bx3}
set_option maxRecDepth 20000 in
theorem box_bad1 (h : addrOk n l d = false) : enOk ⟨false, nm, n, l, d, M⟩ = false := by rw [enOk_box, h]; rfl
set_option maxRecDepth 20000 in
theorem box_bad2 (h : ¬ nm.toList = []) : enOk ⟨false, nm, n, l, d, M⟩ = false := by
  rw [enOk_box, decide_eq_false (show ¬ nm.size = 0 from fun e => h (toList_nil nm e))]; simp
set_option maxRecDepth 20000 in
theorem box_bad3 (h : 0 < M.length) : enOk ⟨false, nm, n, l, d, M⟩ = false := by
  rw [enOk_box, decide_eq_false (show ¬ M.length = 0 by omega)]; simp
set_option maxRecDepth 20000 in
theorem size_nil (x : ByteArray) (h : x.toList = []) : x.size = 0 := by
  by_cases h1 : x.size = 0
  · exact h1
  · have := isEmpty_ne x h1
    rw [h] at this
    simp at this
set_option maxRecDepth 20000 in
theorem box_good (h1 : addrOk n l d = true) (h2 : nm.toList = []) (h3 : ¬ 0 < M.length) : enOk ⟨false, nm, n, l, d, M⟩ = true := by
  rw [enOk_box, h1, decide_eq_true (size_nil nm h2), decide_eq_true (show M.length = 0 by omega)]; rfl
set_option maxRecDepth 20000 in
theorem group_bad1 (h : decide (n.size = 0 ∧ l.size = 0 ∧ d.size = 0) = false) : enOk ⟨true, nm, n, l, d, M⟩ = false := by rw [enOk_group, h]; simp
set_option maxRecDepth 20000 in
theorem group_bad2 (h : nm.toList = []) : enOk ⟨true, nm, n, l, d, M⟩ = false := by
  rw [enOk_group, decide_eq_false (show ¬ nm.size ≠ 0 from fun e => e (size_nil nm h))]; rfl
set_option maxRecDepth 20000 in
theorem group_bad3 (h : (decide (nm.size ≤ 200) && nm.data.toList.all Pl.tb) = false) : enOk ⟨true, nm, n, l, d, M⟩ = false := by
  rw [enOk_group, ← Bool.and_assoc (decide (nm.size ≤ 200)), h]; simp
set_option maxRecDepth 20000 in
theorem group_bad4 (h : M.all bxOk = false) : enOk ⟨true, nm, n, l, d, M⟩ = false := by rw [enOk_group, h]; simp
set_option maxRecDepth 20000 in
theorem group_good (h1 : decide (n.size = 0 ∧ l.size = 0 ∧ d.size = 0) = true) (h2 : ¬ nm.toList = []) (h3 : (decide (nm.size ≤ 200) && nm.data.toList.all Pl.tb) = true) (h4 : M.all bxOk = true) : enOk ⟨true, nm, n, l, d, M⟩ = true := by
  rw [enOk_group, ← Bool.and_assoc (decide (nm.size ≤ 200)), h3, h1, h4, decide_eq_true (show nm.size ≠ 0 from fun e => h2 (toList_nil nm e))]; rfl
end
set_option maxRecDepth 20000 in
theorem all_bad {α : Type} {L : List α} {f : α → Bool} {k : Nat} {q : α} (h : L[k]? = some q) (hf : f q = false) : L.all f = false :=
  List.all_eq_false.2 ⟨q, List.mem_of_getElem? h, by simp [hf]⟩
set_option maxRecDepth 20000 in
theorem all_step {α : Type} {L : List α} {f : α → Bool} {k : Nat} {q : α} (h : L[k]? = some q) (h1 : (L.take k).all f = true) (hf : f q = true) : (L.take (k + 1)).all f = true := by
  rw [List.take_add_one, h, List.all_append, h1]; simp [hf]
set_option maxRecDepth 20000 in
theorem mb_step {L : List Bx3} {k : Nat} {q : Bx3} (h : L[k]? = some q) (hk : k < L.length) : mbT (L.take (k + 1)) = mbT (L.take k) ++ (if k = 0 then [] else [44]) ++ [32] ++ bxT q := by
  rw [List.take_add_one, h, Option.toList_some, mbT_snoc, List.length_take, Nat.min_eq_left (by omega)]
set_option maxRecDepth 20000 in
theorem es_step {L : List En} {k : Nat} {q : En} (h : L[k]? = some q) (hk : k < L.length) : esT (L.take (k + 1)) = esT (L.take k) ++ (if k = 0 then [] else [44, 32]) ++ enT q := by
  rw [List.take_add_one, h, Option.toList_some, esT_snoc, List.length_take, Nat.min_eq_left (by omega)]
set_option maxRecDepth 40000 in
set_option maxHeartbeats 16000000 in
theorem specWriteList (o : Option Addr) (E : List EnE) (cap B0 : Nat) (w : World) (hE : Ens B0 (.slice o E.length cap) E w) (hl : E.length ≤ 8) (hok : ∀ e ∈ E, e.1.sml) (F : List En) (hF : F = E.map (·.1)) (X : ByteArray) (hX : X = if F.all enOk = true then ⟨(esT F).toArray⟩ else ⟨#[]⟩) :
    Calls Tryz.prog 6 #[.slice o E.length cap] w fun e w' => e = .returned (.string X) ∧ Below w.heap.size w w' := by
  have hFl : F.length = E.length := by rw [hF, List.length_map]
  have HF := mkHid hF
  have HX := mkHid hX
  clear hF hX
  obtain ⟨i0, hi0, hy0, hy1, hy2⟩ := info_parts Tryz.info5
  obtain ⟨W1, hW1⟩ : ∃ W, w.alloc (.cells #[] 5) = W := ⟨_, rfl⟩
  have HO1 : Hid (Own w.heap.size (.slice (some ⟨w.heap.size, 0, none⟩) 0 0) [] W1) := by rw [← hW1]; exact Own.made w.heap.size w (Nat.le_refl _)
  have Hb1 : Hid (Below w.heap.size w W1) := by rw [← hW1]; exact (Below.refl _ _).alloc (Nat.le_refl _) _
  have HW1 := mkHid hW1
  have HE := mkHid hE
  have Hok := mkHid hok
  have e1 : ¬ (500 : Int) < (E.length : Int) := by omega
  clear hW1 hE hok
  go_enter Tryz.func6, Tryz.ntmps6
  go_wp2
  rw [HW1.out]
  go_loopw [3, 4, 5] (fun nv ov iv wr => ∃ (i nn : Nat) (p : List UInt8), i ≤ E.length ∧ iv = .int .i64 i ∧ nv = .int .i64 nn ∧ nn ≤ 4 * i ∧ p.length ≤ 1200 * i ∧ Hid (p = esT (F.take i)) ∧ Hid ((F.take i).all enOk = true) ∧ Hid (Own w.heap.size ov p wr) ∧ Hid (Below w.heap.size w wr)) (fun _ _ iv _ => E.length - (Lib.intOf iv).toNat)
  case atStart => exact ⟨0, 0, [], Nat.zero_le _, rfl, rfl, by omega, by simp, mkHid rfl, mkHid rfl, HO1, Hb1⟩
  case round =>
    clear HO1 Hb1 HW1
    obtain ⟨i, nn, p, hi, rfl, rfl, hnn, hpi, Hpi, Hall, HO, Hb⟩ := hrel
    by_cases hlt : i < E.length
    · obtain ⟨gL, hgL, hoo, hcl⟩ := HE.out.cellsAt (by omega)
      obtain ⟨c0, c1, c2, c3, c4, c5⟩ := hcl i hlt
      have hokE := Hok.out E[i] (List.getElem_mem hlt)
      have hownE := HE.out.own E[i] (List.getElem_mem hlt)
      subst hoo
      have hFi : F[i]? = some E[i].1 := by rw [HF.out]; simp [hlt]
      generalize E[i] = q at c0 c1 c2 c3 c4 c5 hokE hownE hFi
      obtain ⟨⟨grp, nm, bn, bl, bd, L⟩, mv⟩ := q
      obtain ⟨om, cm, hmv⟩ := hownE.shape
      have hmv2 : mv = .slice om L.length cm := hmv
      subst hmv2
      obtain ⟨hz1, ⟨hz2, hz3, hz4⟩, hz5, hmok0⟩ := hokE
      have hz1 : nm.size ≤ 20 := hz1
      have hz2 : bn.size ≤ 66 := hz2
      have hz3 : bl.size ≤ 66 := hz3
      have hz4 : bd.size ≤ 66 := hz4
      have hz5 : L.length ≤ 3 := hz5
      have hmok : Hid (∀ b ∈ L, b.sml) := hmok0
      have HFi := mkHid hFi
      have HXe : Hid (enOk ⟨grp, nm, bn, bl, bd, L⟩ = false → X = ⟨#[]⟩) := mkHid (fun h => by rw [HX.out, if_neg (by rw [all_bad HFi.out h]; decide)])
      clear hFi
      have hmem : Hid (OwnB B0 (.slice om L.length cm) L w) := hownE
      have d0 : wr.cell? ⟨gL, i * 6, none⟩ = some (.bool grp) := (Hb.out.cell (p := ⟨gL, i * 6, none⟩) hgL).trans c0
      have d1 : wr.cell? ⟨gL, i * 6 + 1, none⟩ = some (.string nm) := (Hb.out.cell (p := ⟨gL, i * 6 + 1, none⟩) hgL).trans c1
      have d2 : wr.cell? ⟨gL, i * 6 + 2, none⟩ = some (.string bn) := (Hb.out.cell (p := ⟨gL, i * 6 + 2, none⟩) hgL).trans c2
      have d3 : wr.cell? ⟨gL, i * 6 + 3, none⟩ = some (.string bl) := (Hb.out.cell (p := ⟨gL, i * 6 + 3, none⟩) hgL).trans c3
      have d4 : wr.cell? ⟨gL, i * 6 + 4, none⟩ = some (.string bd) := (Hb.out.cell (p := ⟨gL, i * 6 + 4, none⟩) hgL).trans c4
      have d5 : wr.cell? ⟨gL, i * 6 + 5, none⟩ = some (.slice om L.length cm) := (Hb.out.cell (p := ⟨gL, i * 6 + 5, none⟩) hgL).trans c5
      have hR2 := hp_alloc wr (.cells #[.bool false, .string ⟨#[]⟩, .string ⟨#[]⟩, .string ⟨#[]⟩, .string ⟨#[]⟩, .slice none 0 0] 37)
      clear hcl c0 c1 c2 c3 c4 c5 hownE hmok0 hmv
      go_wp2_with (refine wpL_store_row rfl 37 _ _ rfl wr.heap.size _ rfl rfl 37 _ hR2 (by kernel_rfl) rfl (by simp [Value.oneCell']) ?_; refine Hid.out ?_)
      obtain ⟨V5, hV5⟩ : ∃ V, (wr.alloc (.cells #[.bool false, .string ⟨#[]⟩, .string ⟨#[]⟩, .string ⟨#[]⟩, .string ⟨#[]⟩, .slice none 0 0] 37)).setRow wr.heap.size #[.bool grp, .string nm, .string bn, .string bl, .string bd, .slice om L.length cm] = V := ⟨_, rfl⟩
      have hb5 := below_row hV5
      have HB5 : Hid (V5.heap[wr.heap.size]? = some (.cells #[.bool grp, .string nm, .string bn, .string bl, .string bd, .slice om L.length cm] 37 (0, 0))) := by rw [← hV5]; exact setRow_heap _ _ _ _ _ _ hR2
      rw [hV5]
      obtain ⟨Bk, hBk⟩ : ∃ Bk, Bk = wr.heap.size := ⟨_, rfl⟩
      rw [← hBk] at HB5 ⊢
      have HO5 := mkHid (Own.belowG HO.out hb5)
      have Hb5 := mkHid (Hb.out.trans (hb5.mono Hb.out.size))
      clear hR2 hV5 hBk hb5 HO Hb d0 d1 d2 d3 d4 d5
      refine mkHid ?_
      by_cases hip : 0 < i
      · have hi0i : (0 : Int) < (i : Int) := by omega
        go_wp2_with (at_builtin; go_must (refine wp_appG (w := V5) rfl _ _ 22 rfl i0 Tryz.underlying22 hi0 hy0 hy1 hy2 w.heap.size u4 p rfl HO5.out _ [44, 32] rfl 2 2 rfl rfl (by simp; omega) Hb5.out.size ?_; intro v102 w101 hO109 hG108; refine Hid.out ?_))
        have hbA : Below V5.heap.size V5 (V5.alloc (.cells #[.int .u8 44, .int .u8 32] 5)) := (Below.refl _ _).alloc (Nat.le_refl _) _
        have hA1 : (V5.alloc (.cells #[.int .u8 44, .int .u8 32] 5)).heap[Bk]? = some (.cells #[.bool grp, .string nm, .string bn, .string bl, .string bd, .slice om L.length cm] 37 (0, 0)) := (hbA.block Bk (hp_lt HB5.out)).trans HB5.out
        have hA2 : Own w.heap.size u4 p (V5.alloc (.cells #[.int .u8 44, .int .u8 32] 5)) := World.ownsRow.alloc HO5.out _
        have HB105 : Hid (w101.heap[Bk]? = some (.cells #[.bool grp, .string nm, .string bn, .string bl, .string bd, .slice om L.length cm] 37 (0, 0))) := (hG108.block Bk (hp_lt hA1) (fun e => own_not_blockX hA2 hA1 (by decide) e.symm)).trans hA1
        have Hb106 : Hid (Below w.heap.size w w101) := ((Hb5.out.alloc Hb5.out.size _)).grown hG108 (by have := Hb5.out.size; simp; omega) (fun k hk => (World.ownsRow.lt hA2 k hk).1)
        have HO104 := mkHid hO109
        have hp107 : (p ++ [44, 32]).length ≤ p.length + 2 := by simp
        clear hbA hA1 hA2 hO109 hG108 HO5 HB5 Hb5
        obtain ⟨p103, hpe⟩ : ∃ q : List UInt8, p ++ [44, 32] = q := ⟨_, rfl⟩
        rw [hpe] at hp107 HO104
        have Hqp103 := mkHid hpe
        clear hpe
        refine mkHid ?_
        have Hpc : Hid (p103 = esT (F.take i) ++ (if i = 0 then [] else [44, 32])) := mkHid (by rw [if_neg (by omega), ← Hqp103.out, Hpi.out])
        have hq500 : ¬ (500 : Int) < (nn : Int) + (L.length : Int) := by omega
        have hq501 : ¬ (500 : Int) < (nn : Int) + (L.length : Int) + 1 := by omega
        cases grp with
        | false =>
          have x0 : w101.cell? ⟨Bk, 0, none⟩ = some (.bool false) := by simp [World.cell?, HB105.out]
          have x1 : w101.cell? ⟨Bk, 1, none⟩ = some (.string nm) := by simp [World.cell?, HB105.out]
          have x2 : w101.cell? ⟨Bk, 2, none⟩ = some (.string bn) := by simp [World.cell?, HB105.out]
          have x3 : w101.cell? ⟨Bk, 3, none⟩ = some (.string bl) := by simp [World.cell?, HB105.out]
          have x4 : w101.cell? ⟨Bk, 4, none⟩ = some (.string bd) := by simp [World.cell?, HB105.out]
          have x5 : w101.cell? ⟨Bk, 5, none⟩ = some (.slice om L.length cm) := by simp [World.cell?, HB105.out]
          have hN115 := specAddress bn bl bd w101 (by omega) (by omega) (by omega)
          go_wp2_with fail
          refine hN115.mono ?_
          rintro e w110 ⟨rfl, hb114⟩
          have HB111 : Hid (w110.heap[Bk]? = some (.cells #[.bool false, .string nm, .string bn, .string bl, .string bd, .slice om L.length cm] 37 (0, 0))) := (hb114.block Bk (hp_lt HB105.out)).trans HB105.out
          have Hb112 : Hid (Below w.heap.size w w110) := Hb106.out.trans (hb114.mono Hb106.out.size)
          have HO113 := mkHid (Own.belowG HO104.out hb114)
          clear hN115 hb114 HO104 HB105 Hb106
          clear x0 x1 x2 x3 x4 x5
          have x0 : w110.cell? ⟨Bk, 0, none⟩ = some (.bool false) := by simp [World.cell?, HB111.out]
          have x1 : w110.cell? ⟨Bk, 1, none⟩ = some (.string nm) := by simp [World.cell?, HB111.out]
          have x2 : w110.cell? ⟨Bk, 2, none⟩ = some (.string bn) := by simp [World.cell?, HB111.out]
          have x3 : w110.cell? ⟨Bk, 3, none⟩ = some (.string bl) := by simp [World.cell?, HB111.out]
          have x4 : w110.cell? ⟨Bk, 4, none⟩ = some (.string bd) := by simp [World.cell?, HB111.out]
          have x5 : w110.cell? ⟨Bk, 5, none⟩ = some (.slice om L.length cm) := by simp [World.cell?, HB111.out]
          have hdc := addr_casesX bn bl bd
          generalize hdcv : dcode (addrOk bn bl bd) = dc at hdc
          clear hdcv
          rcases hdc with ⟨hdc, had⟩ | ⟨hdc, had⟩
          · subst hdc
            by_cases hnm : nm.toList = []
            · by_cases hL0 : 0 < L.length
              · have hL0i : (0 : Int) < (L.length : Int) := by omega
                have hbad := HXe.out (box_bad3 hL0)
                go_wp2
                go_ret
                exact ⟨by rw [hbad]; rfl, Hb112.out⟩
              · have hL0i : ¬ (0 : Int) < (L.length : Int) := by omega
                have hN121 := specBox bn bl bd w110 (by omega) (by omega) (by omega)
                go_wp2_with fail
                refine hN121.mono ?_
                rintro e w116 ⟨rfl, hb120⟩
                have HB117 : Hid (w116.heap[Bk]? = some (.cells #[.bool false, .string nm, .string bn, .string bl, .string bd, .slice om L.length cm] 37 (0, 0))) := (hb120.block Bk (hp_lt HB111.out)).trans HB111.out
                have Hb118 : Hid (Below w.heap.size w w116) := Hb112.out.trans (hb120.mono Hb112.out.size)
                have HO119 := mkHid (Own.belowG HO113.out hb120)
                clear hN121 hb120 HO113 HB111 Hb112
                clear x0 x1 x2 x3 x4 x5
                have htz := boxT_sizeX (show bn.size ≤ 66 ∧ bl.size ≤ 66 ∧ bd.size ≤ 66 from ⟨by omega, by omega, by omega⟩)
                generalize htb : boxT bn bl bd = tb at htz ⊢
                have Htb := mkHid htb
                clear htb
                go_wp2_with (at_builtin; go_must (refine wp_appsG (w := w116) rfl _ _ 22 9 rfl i0 Tryz.underlying22 Tryz.underlying9 hi0 hy0 hy1 hy2 w.heap.size v102 p103 rfl HO119.out tb rfl (by omega) Hb118.out.size ?_; intro v123 w122 hO130 hG129; refine Hid.out ?_))
                have HB126 : Hid (w122.heap[Bk]? = some (.cells #[.bool false, .string nm, .string bn, .string bl, .string bd, .slice om L.length cm] 37 (0, 0))) := (hG129.block Bk (hp_lt HB117.out) (fun e => own_not_blockX HO119.out HB117.out (by decide) e.symm)).trans HB117.out
                have Hb127 : Hid (Below w.heap.size w w122) := Hb118.out.grown hG129 Hb118.out.size (fun k hk => (World.ownsRow.lt HO119.out k hk).1)
                have HO125 := mkHid hO130
                have hp128 : (p103 ++ tb.data.toList).length ≤ p103.length + tb.size := by simp
                clear hO130 hG129 HO119 HB117 Hb118
                obtain ⟨p124, hpe⟩ : ∃ q : List UInt8, p103 ++ tb.data.toList = q := ⟨_, rfl⟩
                rw [hpe] at hp128 HO125
                have Hqp124 := mkHid hpe
                clear hpe
                refine mkHid ?_
                have HpE : Hid (p124 = esT (F.take (i + 1))) := mkHid (by rw [es_step HFi.out (by omega), ← Hqp124.out, Hpc.out, ← Htb.out, enT_box])
                have HaE : Hid ((F.take (i + 1)).all enOk = true) := mkHid (all_step HFi.out Hall.out (box_good had hnm hL0))
                go_wp2
                refine ⟨⟨i + 1, nn + L.length + 1, p124, by omega, by go_num, by go_num, by omega, by omega, HpE, HaE, HO125, Hb127⟩, by simp [Lib.intOf]; omega⟩
            · skip
              have hbad := HXe.out (box_bad2 hnm)
              go_wp2
              go_ret
              exact ⟨by rw [hbad]; rfl, Hb112.out⟩
          · have hdb : (dc == 0) = false := beq_eq_false_iff_ne.2 hdc
            have hbad := HXe.out (box_bad1 had)
            go_wp2
            go_ret
            exact ⟨by rw [hbad]; rfl, Hb112.out⟩
        | true =>
          have x0 : w101.cell? ⟨Bk, 0, none⟩ = some (.bool true) := by simp [World.cell?, HB105.out]
          have x1 : w101.cell? ⟨Bk, 1, none⟩ = some (.string nm) := by simp [World.cell?, HB105.out]
          have x2 : w101.cell? ⟨Bk, 2, none⟩ = some (.string bn) := by simp [World.cell?, HB105.out]
          have x3 : w101.cell? ⟨Bk, 3, none⟩ = some (.string bl) := by simp [World.cell?, HB105.out]
          have x4 : w101.cell? ⟨Bk, 4, none⟩ = some (.string bd) := by simp [World.cell?, HB105.out]
          have x5 : w101.cell? ⟨Bk, 5, none⟩ = some (.slice om L.length cm) := by simp [World.cell?, HB105.out]
          have hN115 := specPlainX bn bl bd w101
          go_wp2_with fail
          refine hN115.mono ?_
          rintro e w110 ⟨rfl, hb114⟩
          have HB111 : Hid (w110.heap[Bk]? = some (.cells #[.bool true, .string nm, .string bn, .string bl, .string bd, .slice om L.length cm] 37 (0, 0))) := (hb114.block Bk (hp_lt HB105.out)).trans HB105.out
          have Hb112 : Hid (Below w.heap.size w w110) := Hb106.out.trans (hb114.mono Hb106.out.size)
          have HO113 := mkHid (Own.belowG HO104.out hb114)
          clear hN115 hb114 HO104 HB105 Hb106
          obtain ⟨b1, hb1⟩ : ∃ b, decide (bn.size = 0 ∧ bl.size = 0 ∧ bd.size = 0) = b := ⟨_, rfl⟩
          rw [hb1]
          have Hb1x := mkHid hb1
          clear hb1
          clear x0 x1 x2 x3 x4 x5
          have x0 : w110.cell? ⟨Bk, 0, none⟩ = some (.bool true) := by simp [World.cell?, HB111.out]
          have x1 : w110.cell? ⟨Bk, 1, none⟩ = some (.string nm) := by simp [World.cell?, HB111.out]
          have x2 : w110.cell? ⟨Bk, 2, none⟩ = some (.string bn) := by simp [World.cell?, HB111.out]
          have x3 : w110.cell? ⟨Bk, 3, none⟩ = some (.string bl) := by simp [World.cell?, HB111.out]
          have x4 : w110.cell? ⟨Bk, 4, none⟩ = some (.string bd) := by simp [World.cell?, HB111.out]
          have x5 : w110.cell? ⟨Bk, 5, none⟩ = some (.slice om L.length cm) := by simp [World.cell?, HB111.out]
          cases b1 with
          | false =>
            have hbad := HXe.out (group_bad1 Hb1x.out)
            go_wp2
            go_ret
            exact ⟨by rw [hbad]; rfl, Hb112.out⟩
          | true =>
            by_cases hnm : nm.toList = []
            · skip
              have hbad := HXe.out (group_bad2 hnm)
              go_wp2
              go_ret
              exact ⟨by rw [hbad]; rfl, Hb112.out⟩
            · have hnme : nm.toList.isEmpty = false := by simpa using hnm
              have hN9 := specIsName nm w110 (by omega)
              obtain ⟨b2, hb2⟩ : ∃ b, (decide (nm.size ≤ 200) && nm.data.toList.all Pl.tb) = b := ⟨_, rfl⟩
              rw [hb2] at hN9
              have Hb2x := mkHid hb2
              clear hb2
              go_wp2_with fail
              refine hN9.mono ?_
              rintro e w9 ⟨rfl, rfl⟩
              clear hN9
              cases b2 with
              | false =>
                have hbad := HXe.out (group_bad3 Hb2x.out)
                go_wp2
                go_ret
                exact ⟨by rw [hbad]; rfl, Hb112.out⟩
              | true =>
                have hN121 := specPhrase nm w110 (by omega)
                go_wp2_with fail
                refine hN121.mono ?_
                rintro e w116 ⟨rfl, hb120⟩
                have HB117 : Hid (w116.heap[Bk]? = some (.cells #[.bool true, .string nm, .string bn, .string bl, .string bd, .slice om L.length cm] 37 (0, 0))) := (hb120.block Bk (hp_lt HB111.out)).trans HB111.out
                have Hb118 : Hid (Below w.heap.size w w116) := Hb112.out.trans (hb120.mono Hb112.out.size)
                have HO119 := mkHid (Own.belowG HO113.out hb120)
                clear hN121 hb120 HO113 HB111 Hb112
                have Hnm := mkHid hnm
                clear x0 x1 x2 x3 x4 x5 hnm
                obtain ⟨tp, htp⟩ : ∃ t : ByteArray, ⟨(Pl.phrase nm.data.toList).toArray⟩ = t := ⟨_, rfl⟩
                have htpz : tp.size ≤ 42 := by rw [← htp]; have := phr_size nm; unfold phr at this; omega
                rw [htp]
                have Htp := mkHid htp
                clear htp
                go_wp2_with (at_builtin; go_must (refine wp_appsG (w := w116) rfl _ _ 22 9 rfl i0 Tryz.underlying22 Tryz.underlying9 hi0 hy0 hy1 hy2 w.heap.size v102 p103 rfl HO119.out tp rfl (by omega) Hb118.out.size ?_; intro v123 w122 hO130 hG129; refine Hid.out ?_))
                have HB126 : Hid (w122.heap[Bk]? = some (.cells #[.bool true, .string nm, .string bn, .string bl, .string bd, .slice om L.length cm] 37 (0, 0))) := (hG129.block Bk (hp_lt HB117.out) (fun e => own_not_blockX HO119.out HB117.out (by decide) e.symm)).trans HB117.out
                have Hb127 : Hid (Below w.heap.size w w122) := Hb118.out.grown hG129 Hb118.out.size (fun k hk => (World.ownsRow.lt HO119.out k hk).1)
                have HO125 := mkHid hO130
                have hp128 : (p103 ++ tp.data.toList).length ≤ p103.length + tp.size := by simp
                clear hO130 hG129 HO119 HB117 Hb118
                obtain ⟨p124, hpe⟩ : ∃ q : List UInt8, p103 ++ tp.data.toList = q := ⟨_, rfl⟩
                rw [hpe] at hp128 HO125
                have Hqp124 := mkHid hpe
                clear hpe
                refine mkHid ?_
                go_wp2_with (at_builtin; go_must (refine wp_appG (w := w122) rfl _ _ 22 rfl i0 Tryz.underlying22 hi0 hy0 hy1 hy2 w.heap.size v123 p124 rfl HO125.out _ [58] rfl 1 1 rfl rfl (by simp; omega) Hb127.out.size ?_; intro v132 w131 hO139 hG138; refine Hid.out ?_))
                have hbA : Below w122.heap.size w122 (w122.alloc (.cells #[.int .u8 58] 5)) := (Below.refl _ _).alloc (Nat.le_refl _) _
                have hA1 : (w122.alloc (.cells #[.int .u8 58] 5)).heap[Bk]? = some (.cells #[.bool true, .string nm, .string bn, .string bl, .string bd, .slice om L.length cm] 37 (0, 0)) := (hbA.block Bk (hp_lt HB126.out)).trans HB126.out
                have hA2 : Own w.heap.size v123 p124 (w122.alloc (.cells #[.int .u8 58] 5)) := World.ownsRow.alloc HO125.out _
                have HB135 : Hid (w131.heap[Bk]? = some (.cells #[.bool true, .string nm, .string bn, .string bl, .string bd, .slice om L.length cm] 37 (0, 0))) := (hG138.block Bk (hp_lt hA1) (fun e => own_not_blockX hA2 hA1 (by decide) e.symm)).trans hA1
                have Hb136 : Hid (Below w.heap.size w w131) := ((Hb127.out.alloc Hb127.out.size _)).grown hG138 (by have := Hb127.out.size; simp; omega) (fun k hk => (World.ownsRow.lt hA2 k hk).1)
                have HO134 := mkHid hO139
                have hp137 : (p124 ++ [58]).length ≤ p124.length + 1 := by simp
                clear hbA hA1 hA2 hO139 hG138 HO125 HB126 Hb127
                obtain ⟨p133, hpe⟩ : ∃ q : List UInt8, p124 ++ [58] = q := ⟨_, rfl⟩
                rw [hpe] at hp137 HO134
                have Hqp133 := mkHid hpe
                clear hpe
                refine mkHid ?_
                go_wp2
                go_loopw [4, 7] (fun ov kv wr => ∃ (k2 : Nat) (p : List UInt8), k2 ≤ L.length ∧ kv = .int .i64 k2 ∧ p.length ≤ 1200 * i + 60 + 345 * k2 ∧ Hid (p = p133 ++ mbT (L.take k2)) ∧ Hid ((L.take k2).all bxOk = true) ∧ Hid (Own w.heap.size ov p wr) ∧ Hid (wr.heap[Bk]? = some (.cells #[.bool true, .string nm, .string bn, .string bl, .string bd, .slice om L.length cm] 37 (0, 0))) ∧ Hid (Below w.heap.size w wr)) (fun _ kv _ => L.length - (Lib.intOf kv).toNat)
                case atStart => exact ⟨0, p133, Nat.zero_le _, rfl, by omega, mkHid (by simp [mbT]), mkHid rfl, HO134, HB135, Hb136⟩
                case round =>
                  clear HO134 HB135 Hb136
                  obtain ⟨k2, pk, hk2, rfl, hpk, Hpk, HaL, HO, HB, Hb⟩ := hrel
                  by_cases hlk : k2 < L.length
                  · obtain ⟨gm, hgmB, hgmw, hom, hmc⟩ := hmem.out.cellsAt (by omega)
                    obtain ⟨m0, m1, m2⟩ := hmc k2 hlk
                    have hmk := hmok.out L[k2] (List.getElem_mem hlk)
                    subst hom
                    have hLk : L[k2]? = some L[k2] := List.getElem?_eq_getElem hlk
                    generalize L[k2] = q3 at m0 m1 m2 hmk hLk
                    obtain ⟨mn, ml, md⟩ := q3
                    obtain ⟨hmz1, hmz2, hmz3⟩ := hmk
                    have hmz1 : mn.size ≤ 66 := hmz1
                    have hmz2 : ml.size ≤ 66 := hmz2
                    have hmz3 : md.size ≤ 66 := hmz3
                    have HLk := mkHid hLk
                    clear hmc hLk
                    have x5 : wr.cell? ⟨Bk, 5, none⟩ = some (.slice (some ⟨gm, 0, none⟩) L.length cm) := by simp [World.cell?, HB.out]
                    have y0 : wr.cell? ⟨gm, k2 * 3, none⟩ = some (.string mn) := (Hb.out.cell (p := ⟨gm, k2 * 3, none⟩) hgmw).trans m0
                    have y1 : wr.cell? ⟨gm, k2 * 3 + 1, none⟩ = some (.string ml) := (Hb.out.cell (p := ⟨gm, k2 * 3 + 1, none⟩) hgmw).trans m1
                    have y2 : wr.cell? ⟨gm, k2 * 3 + 2, none⟩ = some (.string md) := (Hb.out.cell (p := ⟨gm, k2 * 3 + 2, none⟩) hgmw).trans m2
                    have hN145 := specAddress mn ml md wr (by omega) (by omega) (by omega)
                    go_wp2_with fail
                    refine hN145.mono ?_
                    rintro e w140 ⟨rfl, hb144⟩
                    have HB141 : Hid (w140.heap[Bk]? = some (.cells #[.bool true, .string nm, .string bn, .string bl, .string bd, .slice (some ⟨gm, 0, none⟩) L.length cm] 37 (0, 0))) := (hb144.block Bk (hp_lt HB.out)).trans HB.out
                    have Hb142 : Hid (Below w.heap.size w w140) := Hb.out.trans (hb144.mono Hb.out.size)
                    have HO143 := mkHid (Own.belowG HO.out hb144)
                    clear hN145 hb144 HO HB Hb
                    clear x5 y0 y1 y2
                    have hdc := addr_casesX mn ml md
                    generalize hdcv : dcode (addrOk mn ml md) = dc at hdc
                    clear hdcv
                    rcases hdc with ⟨hdc, had⟩ | ⟨hdc, had⟩
                    · subst hdc
                      by_cases hk0 : 0 < k2
                      · have hk0i : (0 : Int) < (k2 : Int) := by omega
                        go_wp2_with (at_builtin; go_must (refine wp_appG (w := w140) rfl _ _ 22 rfl i0 Tryz.underlying22 hi0 hy0 hy1 hy2 w.heap.size u4 pk rfl HO143.out _ [44] rfl 1 1 rfl rfl (by simp; omega) Hb142.out.size ?_; intro v147 w146 hO154 hG153; refine Hid.out ?_))
                        have hbA : Below w140.heap.size w140 (w140.alloc (.cells #[.int .u8 44] 5)) := (Below.refl _ _).alloc (Nat.le_refl _) _
                        have hA1 : (w140.alloc (.cells #[.int .u8 44] 5)).heap[Bk]? = some (.cells #[.bool true, .string nm, .string bn, .string bl, .string bd, .slice (some ⟨gm, 0, none⟩) L.length cm] 37 (0, 0)) := (hbA.block Bk (hp_lt HB141.out)).trans HB141.out
                        have hA2 : Own w.heap.size u4 pk (w140.alloc (.cells #[.int .u8 44] 5)) := World.ownsRow.alloc HO143.out _
                        have HB150 : Hid (w146.heap[Bk]? = some (.cells #[.bool true, .string nm, .string bn, .string bl, .string bd, .slice (some ⟨gm, 0, none⟩) L.length cm] 37 (0, 0))) := (hG153.block Bk (hp_lt hA1) (fun e => own_not_blockX hA2 hA1 (by decide) e.symm)).trans hA1
                        have Hb151 : Hid (Below w.heap.size w w146) := ((Hb142.out.alloc Hb142.out.size _)).grown hG153 (by have := Hb142.out.size; simp; omega) (fun k hk => (World.ownsRow.lt hA2 k hk).1)
                        have HO149 := mkHid hO154
                        have hp152 : (pk ++ [44]).length ≤ pk.length + 1 := by simp
                        clear hbA hA1 hA2 hO154 hG153 HO143 HB141 Hb142
                        obtain ⟨p148, hpe⟩ : ∃ q : List UInt8, pk ++ [44] = q := ⟨_, rfl⟩
                        rw [hpe] at hp152 HO149
                        have Hqp148 := mkHid hpe
                        clear hpe
                        refine mkHid ?_
                        go_wp2_with (at_builtin; go_must (refine wp_appG (w := w146) rfl _ _ 22 rfl i0 Tryz.underlying22 hi0 hy0 hy1 hy2 w.heap.size v147 p148 rfl HO149.out _ [32] rfl 1 1 rfl rfl (by simp; omega) Hb151.out.size ?_; intro v156 w155 hO163 hG162; refine Hid.out ?_))
                        have hbA : Below w146.heap.size w146 (w146.alloc (.cells #[.int .u8 32] 5)) := (Below.refl _ _).alloc (Nat.le_refl _) _
                        have hA1 : (w146.alloc (.cells #[.int .u8 32] 5)).heap[Bk]? = some (.cells #[.bool true, .string nm, .string bn, .string bl, .string bd, .slice (some ⟨gm, 0, none⟩) L.length cm] 37 (0, 0)) := (hbA.block Bk (hp_lt HB150.out)).trans HB150.out
                        have hA2 : Own w.heap.size v147 p148 (w146.alloc (.cells #[.int .u8 32] 5)) := World.ownsRow.alloc HO149.out _
                        have HB159 : Hid (w155.heap[Bk]? = some (.cells #[.bool true, .string nm, .string bn, .string bl, .string bd, .slice (some ⟨gm, 0, none⟩) L.length cm] 37 (0, 0))) := (hG162.block Bk (hp_lt hA1) (fun e => own_not_blockX hA2 hA1 (by decide) e.symm)).trans hA1
                        have Hb160 : Hid (Below w.heap.size w w155) := ((Hb151.out.alloc Hb151.out.size _)).grown hG162 (by have := Hb151.out.size; simp; omega) (fun k hk => (World.ownsRow.lt hA2 k hk).1)
                        have HO158 := mkHid hO163
                        have hp161 : (p148 ++ [32]).length ≤ p148.length + 1 := by simp
                        clear hbA hA1 hA2 hO163 hG162 HO149 HB150 Hb151
                        obtain ⟨p157, hpe⟩ : ∃ q : List UInt8, p148 ++ [32] = q := ⟨_, rfl⟩
                        rw [hpe] at hp161 HO158
                        have Hqp157 := mkHid hpe
                        clear hpe
                        refine mkHid ?_
                        have x5 : w155.cell? ⟨Bk, 5, none⟩ = some (.slice (some ⟨gm, 0, none⟩) L.length cm) := by simp [World.cell?, HB159.out]
                        have y0 : w155.cell? ⟨gm, k2 * 3, none⟩ = some (.string mn) := (Hb160.out.cell (p := ⟨gm, k2 * 3, none⟩) hgmw).trans m0
                        have y1 : w155.cell? ⟨gm, k2 * 3 + 1, none⟩ = some (.string ml) := (Hb160.out.cell (p := ⟨gm, k2 * 3 + 1, none⟩) hgmw).trans m1
                        have y2 : w155.cell? ⟨gm, k2 * 3 + 2, none⟩ = some (.string md) := (Hb160.out.cell (p := ⟨gm, k2 * 3 + 2, none⟩) hgmw).trans m2
                        have hN169 := specBox mn ml md w155 (by omega) (by omega) (by omega)
                        go_wp2_with fail
                        refine hN169.mono ?_
                        rintro e w164 ⟨rfl, hb168⟩
                        have HB165 : Hid (w164.heap[Bk]? = some (.cells #[.bool true, .string nm, .string bn, .string bl, .string bd, .slice (some ⟨gm, 0, none⟩) L.length cm] 37 (0, 0))) := (hb168.block Bk (hp_lt HB159.out)).trans HB159.out
                        have Hb166 : Hid (Below w.heap.size w w164) := Hb160.out.trans (hb168.mono Hb160.out.size)
                        have HO167 := mkHid (Own.belowG HO158.out hb168)
                        clear hN169 hb168 HO158 HB159 Hb160
                        clear x5 y0 y1 y2
                        have htz := boxT_sizeX (show mn.size ≤ 66 ∧ ml.size ≤ 66 ∧ md.size ≤ 66 from ⟨by omega, by omega, by omega⟩)
                        generalize htb : boxT mn ml md = tb at htz ⊢
                        have Htb := mkHid htb
                        clear htb
                        go_wp2_with (at_builtin; go_must (refine wp_appsG (w := w164) rfl _ _ 22 9 rfl i0 Tryz.underlying22 Tryz.underlying9 hi0 hy0 hy1 hy2 w.heap.size v156 p157 rfl HO167.out tb rfl (by omega) Hb166.out.size ?_; intro v171 w170 hO178 hG177; refine Hid.out ?_))
                        have HB174 : Hid (w170.heap[Bk]? = some (.cells #[.bool true, .string nm, .string bn, .string bl, .string bd, .slice (some ⟨gm, 0, none⟩) L.length cm] 37 (0, 0))) := (hG177.block Bk (hp_lt HB165.out) (fun e => own_not_blockX HO167.out HB165.out (by decide) e.symm)).trans HB165.out
                        have Hb175 : Hid (Below w.heap.size w w170) := Hb166.out.grown hG177 Hb166.out.size (fun k hk => (World.ownsRow.lt HO167.out k hk).1)
                        have HO173 := mkHid hO178
                        have hp176 : (p157 ++ tb.data.toList).length ≤ p157.length + tb.size := by simp
                        clear hO178 hG177 HO167 HB165 Hb166
                        obtain ⟨p172, hpe⟩ : ∃ q : List UInt8, p157 ++ tb.data.toList = q := ⟨_, rfl⟩
                        rw [hpe] at hp176 HO173
                        have Hqp172 := mkHid hpe
                        clear hpe
                        refine mkHid ?_
                        have HpM : Hid (p172 = p133 ++ mbT (L.take (k2 + 1))) := mkHid (by rw [mb_step HLk.out hlk, ← Hqp172.out, ← Hqp157.out, ← Hqp148.out, Hpk.out, ← Htb.out, if_neg (by omega)]; simp [bxT])
                        have HaM : Hid ((L.take (k2 + 1)).all bxOk = true) := mkHid (all_step HLk.out HaL.out had)
                        go_wp2
                        refine ⟨⟨k2 + 1, p172, by omega, by go_num, by omega, HpM, HaM, HO173, HB174, Hb175⟩, by simp [Lib.intOf]; omega⟩
                      · have hk0i : ¬ (0 : Int) < (k2 : Int) := by omega
                        go_wp2_with (at_builtin; go_must (refine wp_appG (w := w140) rfl _ _ 22 rfl i0 Tryz.underlying22 hi0 hy0 hy1 hy2 w.heap.size u4 pk rfl HO143.out _ [32] rfl 1 1 rfl rfl (by simp; omega) Hb142.out.size ?_; intro v147 w146 hO154 hG153; refine Hid.out ?_))
                        have hbA : Below w140.heap.size w140 (w140.alloc (.cells #[.int .u8 32] 5)) := (Below.refl _ _).alloc (Nat.le_refl _) _
                        have hA1 : (w140.alloc (.cells #[.int .u8 32] 5)).heap[Bk]? = some (.cells #[.bool true, .string nm, .string bn, .string bl, .string bd, .slice (some ⟨gm, 0, none⟩) L.length cm] 37 (0, 0)) := (hbA.block Bk (hp_lt HB141.out)).trans HB141.out
                        have hA2 : Own w.heap.size u4 pk (w140.alloc (.cells #[.int .u8 32] 5)) := World.ownsRow.alloc HO143.out _
                        have HB150 : Hid (w146.heap[Bk]? = some (.cells #[.bool true, .string nm, .string bn, .string bl, .string bd, .slice (some ⟨gm, 0, none⟩) L.length cm] 37 (0, 0))) := (hG153.block Bk (hp_lt hA1) (fun e => own_not_blockX hA2 hA1 (by decide) e.symm)).trans hA1
                        have Hb151 : Hid (Below w.heap.size w w146) := ((Hb142.out.alloc Hb142.out.size _)).grown hG153 (by have := Hb142.out.size; simp; omega) (fun k hk => (World.ownsRow.lt hA2 k hk).1)
                        have HO149 := mkHid hO154
                        have hp152 : (pk ++ [32]).length ≤ pk.length + 1 := by simp
                        clear hbA hA1 hA2 hO154 hG153 HO143 HB141 Hb142
                        obtain ⟨p148, hpe⟩ : ∃ q : List UInt8, pk ++ [32] = q := ⟨_, rfl⟩
                        rw [hpe] at hp152 HO149
                        have Hqp148 := mkHid hpe
                        clear hpe
                        refine mkHid ?_
                        have x5 : w146.cell? ⟨Bk, 5, none⟩ = some (.slice (some ⟨gm, 0, none⟩) L.length cm) := by simp [World.cell?, HB150.out]
                        have y0 : w146.cell? ⟨gm, k2 * 3, none⟩ = some (.string mn) := (Hb151.out.cell (p := ⟨gm, k2 * 3, none⟩) hgmw).trans m0
                        have y1 : w146.cell? ⟨gm, k2 * 3 + 1, none⟩ = some (.string ml) := (Hb151.out.cell (p := ⟨gm, k2 * 3 + 1, none⟩) hgmw).trans m1
                        have y2 : w146.cell? ⟨gm, k2 * 3 + 2, none⟩ = some (.string md) := (Hb151.out.cell (p := ⟨gm, k2 * 3 + 2, none⟩) hgmw).trans m2
                        have hN160 := specBox mn ml md w146 (by omega) (by omega) (by omega)
                        go_wp2_with fail
                        refine hN160.mono ?_
                        rintro e w155 ⟨rfl, hb159⟩
                        have HB156 : Hid (w155.heap[Bk]? = some (.cells #[.bool true, .string nm, .string bn, .string bl, .string bd, .slice (some ⟨gm, 0, none⟩) L.length cm] 37 (0, 0))) := (hb159.block Bk (hp_lt HB150.out)).trans HB150.out
                        have Hb157 : Hid (Below w.heap.size w w155) := Hb151.out.trans (hb159.mono Hb151.out.size)
                        have HO158 := mkHid (Own.belowG HO149.out hb159)
                        clear hN160 hb159 HO149 HB150 Hb151
                        clear x5 y0 y1 y2
                        have htz := boxT_sizeX (show mn.size ≤ 66 ∧ ml.size ≤ 66 ∧ md.size ≤ 66 from ⟨by omega, by omega, by omega⟩)
                        generalize htb : boxT mn ml md = tb at htz ⊢
                        have Htb := mkHid htb
                        clear htb
                        go_wp2_with (at_builtin; go_must (refine wp_appsG (w := w155) rfl _ _ 22 9 rfl i0 Tryz.underlying22 Tryz.underlying9 hi0 hy0 hy1 hy2 w.heap.size v147 p148 rfl HO158.out tb rfl (by omega) Hb157.out.size ?_; intro v162 w161 hO169 hG168; refine Hid.out ?_))
                        have HB165 : Hid (w161.heap[Bk]? = some (.cells #[.bool true, .string nm, .string bn, .string bl, .string bd, .slice (some ⟨gm, 0, none⟩) L.length cm] 37 (0, 0))) := (hG168.block Bk (hp_lt HB156.out) (fun e => own_not_blockX HO158.out HB156.out (by decide) e.symm)).trans HB156.out
                        have Hb166 : Hid (Below w.heap.size w w161) := Hb157.out.grown hG168 Hb157.out.size (fun k hk => (World.ownsRow.lt HO158.out k hk).1)
                        have HO164 := mkHid hO169
                        have hp167 : (p148 ++ tb.data.toList).length ≤ p148.length + tb.size := by simp
                        clear hO169 hG168 HO158 HB156 Hb157
                        obtain ⟨p163, hpe⟩ : ∃ q : List UInt8, p148 ++ tb.data.toList = q := ⟨_, rfl⟩
                        rw [hpe] at hp167 HO164
                        have Hqp163 := mkHid hpe
                        clear hpe
                        refine mkHid ?_
                        have HpM : Hid (p163 = p133 ++ mbT (L.take (k2 + 1))) := mkHid (by rw [mb_step HLk.out hlk, ← Hqp163.out, ← Hqp148.out, Hpk.out, ← Htb.out, if_pos (by omega)]; simp [bxT])
                        have HaM : Hid ((L.take (k2 + 1)).all bxOk = true) := mkHid (all_step HLk.out HaL.out had)
                        go_wp2
                        refine ⟨⟨k2 + 1, p163, by omega, by go_num, by omega, HpM, HaM, HO164, HB165, Hb166⟩, by simp [Lib.intOf]; omega⟩
                    · have hdb : (dc == 0) = false := beq_eq_false_iff_ne.2 hdc
                      have hbad := HXe.out (group_bad4 (all_bad HLk.out had))
                      go_wp2
                      go_ret
                      exact ⟨by rw [hbad]; rfl, Hb142.out⟩
                  · skip
                    have x5 : wr.cell? ⟨Bk, 5, none⟩ = some (.slice om L.length cm) := by simp [World.cell?, HB.out]
                    have hLt : L.take k2 = L := List.take_of_length_le (by omega)
                    go_wp2_with (at_builtin; go_must (refine wp_appG (w := wr) rfl _ _ 22 rfl i0 Tryz.underlying22 hi0 hy0 hy1 hy2 w.heap.size u4 pk rfl HO.out _ [59] rfl 1 1 rfl rfl (by simp; omega) Hb.out.size ?_; intro v141 w140 hO148 hG147; refine Hid.out ?_))
                    have hbA : Below wr.heap.size wr (wr.alloc (.cells #[.int .u8 59] 5)) := (Below.refl _ _).alloc (Nat.le_refl _) _
                    have hA1 : (wr.alloc (.cells #[.int .u8 59] 5)).heap[Bk]? = some (.cells #[.bool true, .string nm, .string bn, .string bl, .string bd, .slice om L.length cm] 37 (0, 0)) := (hbA.block Bk (hp_lt HB.out)).trans HB.out
                    have hA2 : Own w.heap.size u4 pk (wr.alloc (.cells #[.int .u8 59] 5)) := World.ownsRow.alloc HO.out _
                    have HB144 : Hid (w140.heap[Bk]? = some (.cells #[.bool true, .string nm, .string bn, .string bl, .string bd, .slice om L.length cm] 37 (0, 0))) := (hG147.block Bk (hp_lt hA1) (fun e => own_not_blockX hA2 hA1 (by decide) e.symm)).trans hA1
                    have Hb145 : Hid (Below w.heap.size w w140) := ((Hb.out.alloc Hb.out.size _)).grown hG147 (by have := Hb.out.size; simp; omega) (fun k hk => (World.ownsRow.lt hA2 k hk).1)
                    have HO143 := mkHid hO148
                    have hp146 : (pk ++ [59]).length ≤ pk.length + 1 := by simp
                    clear hbA hA1 hA2 hO148 hG147 HO HB Hb
                    obtain ⟨p142, hpe⟩ : ∃ q : List UInt8, pk ++ [59] = q := ⟨_, rfl⟩
                    rw [hpe] at hp146 HO143
                    have Hqp142 := mkHid hpe
                    clear hpe
                    refine mkHid ?_
                    have HpE : Hid (p142 = esT (F.take (i + 1))) := mkHid (by rw [es_step HFi.out (by omega), ← Hqp142.out, Hpk.out, hLt, ← Hqp133.out, ← Hqp124.out, Hpc.out, ← Htp.out, enT_groupX]; simp [phr])
                    have HaE : Hid ((F.take (i + 1)).all enOk = true) := mkHid (all_step HFi.out Hall.out (group_good Hb1x.out Hnm.out Hb2x.out (by have h9 := HaL.out; rwa [hLt] at h9)))
                    go_wp2
                    refine ⟨⟨i + 1, nn + L.length, p142, by omega, by go_num, by go_num, by omega, by omega, HpE, HaE, HO143, Hb145⟩, by simp [Lib.intOf]; omega⟩
      · have hi0i : ¬ (0 : Int) < (i : Int) := by omega
        have Hpc : Hid (p = esT (F.take i) ++ (if i = 0 then [] else [44, 32])) := mkHid (by rw [if_pos (by omega), List.append_nil]; exact Hpi.out)
        have hq500 : ¬ (500 : Int) < (nn : Int) + (L.length : Int) := by omega
        have hq501 : ¬ (500 : Int) < (nn : Int) + (L.length : Int) + 1 := by omega
        cases grp with
        | false =>
          have x0 : V5.cell? ⟨Bk, 0, none⟩ = some (.bool false) := by simp [World.cell?, HB5.out]
          have x1 : V5.cell? ⟨Bk, 1, none⟩ = some (.string nm) := by simp [World.cell?, HB5.out]
          have x2 : V5.cell? ⟨Bk, 2, none⟩ = some (.string bn) := by simp [World.cell?, HB5.out]
          have x3 : V5.cell? ⟨Bk, 3, none⟩ = some (.string bl) := by simp [World.cell?, HB5.out]
          have x4 : V5.cell? ⟨Bk, 4, none⟩ = some (.string bd) := by simp [World.cell?, HB5.out]
          have x5 : V5.cell? ⟨Bk, 5, none⟩ = some (.slice om L.length cm) := by simp [World.cell?, HB5.out]
          have hN106 := specAddress bn bl bd V5 (by omega) (by omega) (by omega)
          go_wp2_with fail
          refine hN106.mono ?_
          rintro e w101 ⟨rfl, hb105⟩
          have HB102 : Hid (w101.heap[Bk]? = some (.cells #[.bool false, .string nm, .string bn, .string bl, .string bd, .slice om L.length cm] 37 (0, 0))) := (hb105.block Bk (hp_lt HB5.out)).trans HB5.out
          have Hb103 : Hid (Below w.heap.size w w101) := Hb5.out.trans (hb105.mono Hb5.out.size)
          have HO104 := mkHid (Own.belowG HO5.out hb105)
          clear hN106 hb105 HO5 HB5 Hb5
          clear x0 x1 x2 x3 x4 x5
          have x0 : w101.cell? ⟨Bk, 0, none⟩ = some (.bool false) := by simp [World.cell?, HB102.out]
          have x1 : w101.cell? ⟨Bk, 1, none⟩ = some (.string nm) := by simp [World.cell?, HB102.out]
          have x2 : w101.cell? ⟨Bk, 2, none⟩ = some (.string bn) := by simp [World.cell?, HB102.out]
          have x3 : w101.cell? ⟨Bk, 3, none⟩ = some (.string bl) := by simp [World.cell?, HB102.out]
          have x4 : w101.cell? ⟨Bk, 4, none⟩ = some (.string bd) := by simp [World.cell?, HB102.out]
          have x5 : w101.cell? ⟨Bk, 5, none⟩ = some (.slice om L.length cm) := by simp [World.cell?, HB102.out]
          have hdc := addr_casesX bn bl bd
          generalize hdcv : dcode (addrOk bn bl bd) = dc at hdc
          clear hdcv
          rcases hdc with ⟨hdc, had⟩ | ⟨hdc, had⟩
          · subst hdc
            by_cases hnm : nm.toList = []
            · by_cases hL0 : 0 < L.length
              · have hL0i : (0 : Int) < (L.length : Int) := by omega
                have hbad := HXe.out (box_bad3 hL0)
                go_wp2
                go_ret
                exact ⟨by rw [hbad]; rfl, Hb103.out⟩
              · have hL0i : ¬ (0 : Int) < (L.length : Int) := by omega
                have hN112 := specBox bn bl bd w101 (by omega) (by omega) (by omega)
                go_wp2_with fail
                refine hN112.mono ?_
                rintro e w107 ⟨rfl, hb111⟩
                have HB108 : Hid (w107.heap[Bk]? = some (.cells #[.bool false, .string nm, .string bn, .string bl, .string bd, .slice om L.length cm] 37 (0, 0))) := (hb111.block Bk (hp_lt HB102.out)).trans HB102.out
                have Hb109 : Hid (Below w.heap.size w w107) := Hb103.out.trans (hb111.mono Hb103.out.size)
                have HO110 := mkHid (Own.belowG HO104.out hb111)
                clear hN112 hb111 HO104 HB102 Hb103
                clear x0 x1 x2 x3 x4 x5
                have htz := boxT_sizeX (show bn.size ≤ 66 ∧ bl.size ≤ 66 ∧ bd.size ≤ 66 from ⟨by omega, by omega, by omega⟩)
                generalize htb : boxT bn bl bd = tb at htz ⊢
                have Htb := mkHid htb
                clear htb
                go_wp2_with (at_builtin; go_must (refine wp_appsG (w := w107) rfl _ _ 22 9 rfl i0 Tryz.underlying22 Tryz.underlying9 hi0 hy0 hy1 hy2 w.heap.size u4 p rfl HO110.out tb rfl (by omega) Hb109.out.size ?_; intro v114 w113 hO121 hG120; refine Hid.out ?_))
                have HB117 : Hid (w113.heap[Bk]? = some (.cells #[.bool false, .string nm, .string bn, .string bl, .string bd, .slice om L.length cm] 37 (0, 0))) := (hG120.block Bk (hp_lt HB108.out) (fun e => own_not_blockX HO110.out HB108.out (by decide) e.symm)).trans HB108.out
                have Hb118 : Hid (Below w.heap.size w w113) := Hb109.out.grown hG120 Hb109.out.size (fun k hk => (World.ownsRow.lt HO110.out k hk).1)
                have HO116 := mkHid hO121
                have hp119 : (p ++ tb.data.toList).length ≤ p.length + tb.size := by simp
                clear hO121 hG120 HO110 HB108 Hb109
                obtain ⟨p115, hpe⟩ : ∃ q : List UInt8, p ++ tb.data.toList = q := ⟨_, rfl⟩
                rw [hpe] at hp119 HO116
                have Hqp115 := mkHid hpe
                clear hpe
                refine mkHid ?_
                have HpE : Hid (p115 = esT (F.take (i + 1))) := mkHid (by rw [es_step HFi.out (by omega), ← Hqp115.out, Hpc.out, ← Htb.out, enT_box])
                have HaE : Hid ((F.take (i + 1)).all enOk = true) := mkHid (all_step HFi.out Hall.out (box_good had hnm hL0))
                go_wp2
                refine ⟨⟨i + 1, nn + L.length + 1, p115, by omega, by go_num, by go_num, by omega, by omega, HpE, HaE, HO116, Hb118⟩, by simp [Lib.intOf]; omega⟩
            · skip
              have hbad := HXe.out (box_bad2 hnm)
              go_wp2
              go_ret
              exact ⟨by rw [hbad]; rfl, Hb103.out⟩
          · have hdb : (dc == 0) = false := beq_eq_false_iff_ne.2 hdc
            have hbad := HXe.out (box_bad1 had)
            go_wp2
            go_ret
            exact ⟨by rw [hbad]; rfl, Hb103.out⟩
        | true =>
          have x0 : V5.cell? ⟨Bk, 0, none⟩ = some (.bool true) := by simp [World.cell?, HB5.out]
          have x1 : V5.cell? ⟨Bk, 1, none⟩ = some (.string nm) := by simp [World.cell?, HB5.out]
          have x2 : V5.cell? ⟨Bk, 2, none⟩ = some (.string bn) := by simp [World.cell?, HB5.out]
          have x3 : V5.cell? ⟨Bk, 3, none⟩ = some (.string bl) := by simp [World.cell?, HB5.out]
          have x4 : V5.cell? ⟨Bk, 4, none⟩ = some (.string bd) := by simp [World.cell?, HB5.out]
          have x5 : V5.cell? ⟨Bk, 5, none⟩ = some (.slice om L.length cm) := by simp [World.cell?, HB5.out]
          have hN106 := specPlainX bn bl bd V5
          go_wp2_with fail
          refine hN106.mono ?_
          rintro e w101 ⟨rfl, hb105⟩
          have HB102 : Hid (w101.heap[Bk]? = some (.cells #[.bool true, .string nm, .string bn, .string bl, .string bd, .slice om L.length cm] 37 (0, 0))) := (hb105.block Bk (hp_lt HB5.out)).trans HB5.out
          have Hb103 : Hid (Below w.heap.size w w101) := Hb5.out.trans (hb105.mono Hb5.out.size)
          have HO104 := mkHid (Own.belowG HO5.out hb105)
          clear hN106 hb105 HO5 HB5 Hb5
          obtain ⟨b1, hb1⟩ : ∃ b, decide (bn.size = 0 ∧ bl.size = 0 ∧ bd.size = 0) = b := ⟨_, rfl⟩
          rw [hb1]
          have Hb1x := mkHid hb1
          clear hb1
          clear x0 x1 x2 x3 x4 x5
          have x0 : w101.cell? ⟨Bk, 0, none⟩ = some (.bool true) := by simp [World.cell?, HB102.out]
          have x1 : w101.cell? ⟨Bk, 1, none⟩ = some (.string nm) := by simp [World.cell?, HB102.out]
          have x2 : w101.cell? ⟨Bk, 2, none⟩ = some (.string bn) := by simp [World.cell?, HB102.out]
          have x3 : w101.cell? ⟨Bk, 3, none⟩ = some (.string bl) := by simp [World.cell?, HB102.out]
          have x4 : w101.cell? ⟨Bk, 4, none⟩ = some (.string bd) := by simp [World.cell?, HB102.out]
          have x5 : w101.cell? ⟨Bk, 5, none⟩ = some (.slice om L.length cm) := by simp [World.cell?, HB102.out]
          cases b1 with
          | false =>
            have hbad := HXe.out (group_bad1 Hb1x.out)
            go_wp2
            go_ret
            exact ⟨by rw [hbad]; rfl, Hb103.out⟩
          | true =>
            by_cases hnm : nm.toList = []
            · skip
              have hbad := HXe.out (group_bad2 hnm)
              go_wp2
              go_ret
              exact ⟨by rw [hbad]; rfl, Hb103.out⟩
            · have hnme : nm.toList.isEmpty = false := by simpa using hnm
              have hN9 := specIsName nm w101 (by omega)
              obtain ⟨b2, hb2⟩ : ∃ b, (decide (nm.size ≤ 200) && nm.data.toList.all Pl.tb) = b := ⟨_, rfl⟩
              rw [hb2] at hN9
              have Hb2x := mkHid hb2
              clear hb2
              go_wp2_with fail
              refine hN9.mono ?_
              rintro e w9 ⟨rfl, rfl⟩
              clear hN9
              cases b2 with
              | false =>
                have hbad := HXe.out (group_bad3 Hb2x.out)
                go_wp2
                go_ret
                exact ⟨by rw [hbad]; rfl, Hb103.out⟩
              | true =>
                have hN112 := specPhrase nm w101 (by omega)
                go_wp2_with fail
                refine hN112.mono ?_
                rintro e w107 ⟨rfl, hb111⟩
                have HB108 : Hid (w107.heap[Bk]? = some (.cells #[.bool true, .string nm, .string bn, .string bl, .string bd, .slice om L.length cm] 37 (0, 0))) := (hb111.block Bk (hp_lt HB102.out)).trans HB102.out
                have Hb109 : Hid (Below w.heap.size w w107) := Hb103.out.trans (hb111.mono Hb103.out.size)
                have HO110 := mkHid (Own.belowG HO104.out hb111)
                clear hN112 hb111 HO104 HB102 Hb103
                have Hnm := mkHid hnm
                clear x0 x1 x2 x3 x4 x5 hnm
                obtain ⟨tp, htp⟩ : ∃ t : ByteArray, ⟨(Pl.phrase nm.data.toList).toArray⟩ = t := ⟨_, rfl⟩
                have htpz : tp.size ≤ 42 := by rw [← htp]; have := phr_size nm; unfold phr at this; omega
                rw [htp]
                have Htp := mkHid htp
                clear htp
                go_wp2_with (at_builtin; go_must (refine wp_appsG (w := w107) rfl _ _ 22 9 rfl i0 Tryz.underlying22 Tryz.underlying9 hi0 hy0 hy1 hy2 w.heap.size u4 p rfl HO110.out tp rfl (by omega) Hb109.out.size ?_; intro v114 w113 hO121 hG120; refine Hid.out ?_))
                have HB117 : Hid (w113.heap[Bk]? = some (.cells #[.bool true, .string nm, .string bn, .string bl, .string bd, .slice om L.length cm] 37 (0, 0))) := (hG120.block Bk (hp_lt HB108.out) (fun e => own_not_blockX HO110.out HB108.out (by decide) e.symm)).trans HB108.out
                have Hb118 : Hid (Below w.heap.size w w113) := Hb109.out.grown hG120 Hb109.out.size (fun k hk => (World.ownsRow.lt HO110.out k hk).1)
                have HO116 := mkHid hO121
                have hp119 : (p ++ tp.data.toList).length ≤ p.length + tp.size := by simp
                clear hO121 hG120 HO110 HB108 Hb109
                obtain ⟨p115, hpe⟩ : ∃ q : List UInt8, p ++ tp.data.toList = q := ⟨_, rfl⟩
                rw [hpe] at hp119 HO116
                have Hqp115 := mkHid hpe
                clear hpe
                refine mkHid ?_
                go_wp2_with (at_builtin; go_must (refine wp_appG (w := w113) rfl _ _ 22 rfl i0 Tryz.underlying22 hi0 hy0 hy1 hy2 w.heap.size v114 p115 rfl HO116.out _ [58] rfl 1 1 rfl rfl (by simp; omega) Hb118.out.size ?_; intro v123 w122 hO130 hG129; refine Hid.out ?_))
                have hbA : Below w113.heap.size w113 (w113.alloc (.cells #[.int .u8 58] 5)) := (Below.refl _ _).alloc (Nat.le_refl _) _
                have hA1 : (w113.alloc (.cells #[.int .u8 58] 5)).heap[Bk]? = some (.cells #[.bool true, .string nm, .string bn, .string bl, .string bd, .slice om L.length cm] 37 (0, 0)) := (hbA.block Bk (hp_lt HB117.out)).trans HB117.out
                have hA2 : Own w.heap.size v114 p115 (w113.alloc (.cells #[.int .u8 58] 5)) := World.ownsRow.alloc HO116.out _
                have HB126 : Hid (w122.heap[Bk]? = some (.cells #[.bool true, .string nm, .string bn, .string bl, .string bd, .slice om L.length cm] 37 (0, 0))) := (hG129.block Bk (hp_lt hA1) (fun e => own_not_blockX hA2 hA1 (by decide) e.symm)).trans hA1
                have Hb127 : Hid (Below w.heap.size w w122) := ((Hb118.out.alloc Hb118.out.size _)).grown hG129 (by have := Hb118.out.size; simp; omega) (fun k hk => (World.ownsRow.lt hA2 k hk).1)
                have HO125 := mkHid hO130
                have hp128 : (p115 ++ [58]).length ≤ p115.length + 1 := by simp
                clear hbA hA1 hA2 hO130 hG129 HO116 HB117 Hb118
                obtain ⟨p124, hpe⟩ : ∃ q : List UInt8, p115 ++ [58] = q := ⟨_, rfl⟩
                rw [hpe] at hp128 HO125
                have Hqp124 := mkHid hpe
                clear hpe
                refine mkHid ?_
                go_wp2
                go_loopw [4, 7] (fun ov kv wr => ∃ (k2 : Nat) (p : List UInt8), k2 ≤ L.length ∧ kv = .int .i64 k2 ∧ p.length ≤ 1200 * i + 60 + 345 * k2 ∧ Hid (p = p124 ++ mbT (L.take k2)) ∧ Hid ((L.take k2).all bxOk = true) ∧ Hid (Own w.heap.size ov p wr) ∧ Hid (wr.heap[Bk]? = some (.cells #[.bool true, .string nm, .string bn, .string bl, .string bd, .slice om L.length cm] 37 (0, 0))) ∧ Hid (Below w.heap.size w wr)) (fun _ kv _ => L.length - (Lib.intOf kv).toNat)
                case atStart => exact ⟨0, p124, Nat.zero_le _, rfl, by omega, mkHid (by simp [mbT]), mkHid rfl, HO125, HB126, Hb127⟩
                case round =>
                  clear HO125 HB126 Hb127
                  obtain ⟨k2, pk, hk2, rfl, hpk, Hpk, HaL, HO, HB, Hb⟩ := hrel
                  by_cases hlk : k2 < L.length
                  · obtain ⟨gm, hgmB, hgmw, hom, hmc⟩ := hmem.out.cellsAt (by omega)
                    obtain ⟨m0, m1, m2⟩ := hmc k2 hlk
                    have hmk := hmok.out L[k2] (List.getElem_mem hlk)
                    subst hom
                    have hLk : L[k2]? = some L[k2] := List.getElem?_eq_getElem hlk
                    generalize L[k2] = q3 at m0 m1 m2 hmk hLk
                    obtain ⟨mn, ml, md⟩ := q3
                    obtain ⟨hmz1, hmz2, hmz3⟩ := hmk
                    have hmz1 : mn.size ≤ 66 := hmz1
                    have hmz2 : ml.size ≤ 66 := hmz2
                    have hmz3 : md.size ≤ 66 := hmz3
                    have HLk := mkHid hLk
                    clear hmc hLk
                    have x5 : wr.cell? ⟨Bk, 5, none⟩ = some (.slice (some ⟨gm, 0, none⟩) L.length cm) := by simp [World.cell?, HB.out]
                    have y0 : wr.cell? ⟨gm, k2 * 3, none⟩ = some (.string mn) := (Hb.out.cell (p := ⟨gm, k2 * 3, none⟩) hgmw).trans m0
                    have y1 : wr.cell? ⟨gm, k2 * 3 + 1, none⟩ = some (.string ml) := (Hb.out.cell (p := ⟨gm, k2 * 3 + 1, none⟩) hgmw).trans m1
                    have y2 : wr.cell? ⟨gm, k2 * 3 + 2, none⟩ = some (.string md) := (Hb.out.cell (p := ⟨gm, k2 * 3 + 2, none⟩) hgmw).trans m2
                    have hN136 := specAddress mn ml md wr (by omega) (by omega) (by omega)
                    go_wp2_with fail
                    refine hN136.mono ?_
                    rintro e w131 ⟨rfl, hb135⟩
                    have HB132 : Hid (w131.heap[Bk]? = some (.cells #[.bool true, .string nm, .string bn, .string bl, .string bd, .slice (some ⟨gm, 0, none⟩) L.length cm] 37 (0, 0))) := (hb135.block Bk (hp_lt HB.out)).trans HB.out
                    have Hb133 : Hid (Below w.heap.size w w131) := Hb.out.trans (hb135.mono Hb.out.size)
                    have HO134 := mkHid (Own.belowG HO.out hb135)
                    clear hN136 hb135 HO HB Hb
                    clear x5 y0 y1 y2
                    have hdc := addr_casesX mn ml md
                    generalize hdcv : dcode (addrOk mn ml md) = dc at hdc
                    clear hdcv
                    rcases hdc with ⟨hdc, had⟩ | ⟨hdc, had⟩
                    · subst hdc
                      by_cases hk0 : 0 < k2
                      · have hk0i : (0 : Int) < (k2 : Int) := by omega
                        go_wp2_with (at_builtin; go_must (refine wp_appG (w := w131) rfl _ _ 22 rfl i0 Tryz.underlying22 hi0 hy0 hy1 hy2 w.heap.size u4 pk rfl HO134.out _ [44] rfl 1 1 rfl rfl (by simp; omega) Hb133.out.size ?_; intro v138 w137 hO145 hG144; refine Hid.out ?_))
                        have hbA : Below w131.heap.size w131 (w131.alloc (.cells #[.int .u8 44] 5)) := (Below.refl _ _).alloc (Nat.le_refl _) _
                        have hA1 : (w131.alloc (.cells #[.int .u8 44] 5)).heap[Bk]? = some (.cells #[.bool true, .string nm, .string bn, .string bl, .string bd, .slice (some ⟨gm, 0, none⟩) L.length cm] 37 (0, 0)) := (hbA.block Bk (hp_lt HB132.out)).trans HB132.out
                        have hA2 : Own w.heap.size u4 pk (w131.alloc (.cells #[.int .u8 44] 5)) := World.ownsRow.alloc HO134.out _
                        have HB141 : Hid (w137.heap[Bk]? = some (.cells #[.bool true, .string nm, .string bn, .string bl, .string bd, .slice (some ⟨gm, 0, none⟩) L.length cm] 37 (0, 0))) := (hG144.block Bk (hp_lt hA1) (fun e => own_not_blockX hA2 hA1 (by decide) e.symm)).trans hA1
                        have Hb142 : Hid (Below w.heap.size w w137) := ((Hb133.out.alloc Hb133.out.size _)).grown hG144 (by have := Hb133.out.size; simp; omega) (fun k hk => (World.ownsRow.lt hA2 k hk).1)
                        have HO140 := mkHid hO145
                        have hp143 : (pk ++ [44]).length ≤ pk.length + 1 := by simp
                        clear hbA hA1 hA2 hO145 hG144 HO134 HB132 Hb133
                        obtain ⟨p139, hpe⟩ : ∃ q : List UInt8, pk ++ [44] = q := ⟨_, rfl⟩
                        rw [hpe] at hp143 HO140
                        have Hqp139 := mkHid hpe
                        clear hpe
                        refine mkHid ?_
                        go_wp2_with (at_builtin; go_must (refine wp_appG (w := w137) rfl _ _ 22 rfl i0 Tryz.underlying22 hi0 hy0 hy1 hy2 w.heap.size v138 p139 rfl HO140.out _ [32] rfl 1 1 rfl rfl (by simp; omega) Hb142.out.size ?_; intro v147 w146 hO154 hG153; refine Hid.out ?_))
                        have hbA : Below w137.heap.size w137 (w137.alloc (.cells #[.int .u8 32] 5)) := (Below.refl _ _).alloc (Nat.le_refl _) _
                        have hA1 : (w137.alloc (.cells #[.int .u8 32] 5)).heap[Bk]? = some (.cells #[.bool true, .string nm, .string bn, .string bl, .string bd, .slice (some ⟨gm, 0, none⟩) L.length cm] 37 (0, 0)) := (hbA.block Bk (hp_lt HB141.out)).trans HB141.out
                        have hA2 : Own w.heap.size v138 p139 (w137.alloc (.cells #[.int .u8 32] 5)) := World.ownsRow.alloc HO140.out _
                        have HB150 : Hid (w146.heap[Bk]? = some (.cells #[.bool true, .string nm, .string bn, .string bl, .string bd, .slice (some ⟨gm, 0, none⟩) L.length cm] 37 (0, 0))) := (hG153.block Bk (hp_lt hA1) (fun e => own_not_blockX hA2 hA1 (by decide) e.symm)).trans hA1
                        have Hb151 : Hid (Below w.heap.size w w146) := ((Hb142.out.alloc Hb142.out.size _)).grown hG153 (by have := Hb142.out.size; simp; omega) (fun k hk => (World.ownsRow.lt hA2 k hk).1)
                        have HO149 := mkHid hO154
                        have hp152 : (p139 ++ [32]).length ≤ p139.length + 1 := by simp
                        clear hbA hA1 hA2 hO154 hG153 HO140 HB141 Hb142
                        obtain ⟨p148, hpe⟩ : ∃ q : List UInt8, p139 ++ [32] = q := ⟨_, rfl⟩
                        rw [hpe] at hp152 HO149
                        have Hqp148 := mkHid hpe
                        clear hpe
                        refine mkHid ?_
                        have x5 : w146.cell? ⟨Bk, 5, none⟩ = some (.slice (some ⟨gm, 0, none⟩) L.length cm) := by simp [World.cell?, HB150.out]
                        have y0 : w146.cell? ⟨gm, k2 * 3, none⟩ = some (.string mn) := (Hb151.out.cell (p := ⟨gm, k2 * 3, none⟩) hgmw).trans m0
                        have y1 : w146.cell? ⟨gm, k2 * 3 + 1, none⟩ = some (.string ml) := (Hb151.out.cell (p := ⟨gm, k2 * 3 + 1, none⟩) hgmw).trans m1
                        have y2 : w146.cell? ⟨gm, k2 * 3 + 2, none⟩ = some (.string md) := (Hb151.out.cell (p := ⟨gm, k2 * 3 + 2, none⟩) hgmw).trans m2
                        have hN160 := specBox mn ml md w146 (by omega) (by omega) (by omega)
                        go_wp2_with fail
                        refine hN160.mono ?_
                        rintro e w155 ⟨rfl, hb159⟩
                        have HB156 : Hid (w155.heap[Bk]? = some (.cells #[.bool true, .string nm, .string bn, .string bl, .string bd, .slice (some ⟨gm, 0, none⟩) L.length cm] 37 (0, 0))) := (hb159.block Bk (hp_lt HB150.out)).trans HB150.out
                        have Hb157 : Hid (Below w.heap.size w w155) := Hb151.out.trans (hb159.mono Hb151.out.size)
                        have HO158 := mkHid (Own.belowG HO149.out hb159)
                        clear hN160 hb159 HO149 HB150 Hb151
                        clear x5 y0 y1 y2
                        have htz := boxT_sizeX (show mn.size ≤ 66 ∧ ml.size ≤ 66 ∧ md.size ≤ 66 from ⟨by omega, by omega, by omega⟩)
                        generalize htb : boxT mn ml md = tb at htz ⊢
                        have Htb := mkHid htb
                        clear htb
                        go_wp2_with (at_builtin; go_must (refine wp_appsG (w := w155) rfl _ _ 22 9 rfl i0 Tryz.underlying22 Tryz.underlying9 hi0 hy0 hy1 hy2 w.heap.size v147 p148 rfl HO158.out tb rfl (by omega) Hb157.out.size ?_; intro v162 w161 hO169 hG168; refine Hid.out ?_))
                        have HB165 : Hid (w161.heap[Bk]? = some (.cells #[.bool true, .string nm, .string bn, .string bl, .string bd, .slice (some ⟨gm, 0, none⟩) L.length cm] 37 (0, 0))) := (hG168.block Bk (hp_lt HB156.out) (fun e => own_not_blockX HO158.out HB156.out (by decide) e.symm)).trans HB156.out
                        have Hb166 : Hid (Below w.heap.size w w161) := Hb157.out.grown hG168 Hb157.out.size (fun k hk => (World.ownsRow.lt HO158.out k hk).1)
                        have HO164 := mkHid hO169
                        have hp167 : (p148 ++ tb.data.toList).length ≤ p148.length + tb.size := by simp
                        clear hO169 hG168 HO158 HB156 Hb157
                        obtain ⟨p163, hpe⟩ : ∃ q : List UInt8, p148 ++ tb.data.toList = q := ⟨_, rfl⟩
                        rw [hpe] at hp167 HO164
                        have Hqp163 := mkHid hpe
                        clear hpe
                        refine mkHid ?_
                        have HpM : Hid (p163 = p124 ++ mbT (L.take (k2 + 1))) := mkHid (by rw [mb_step HLk.out hlk, ← Hqp163.out, ← Hqp148.out, ← Hqp139.out, Hpk.out, ← Htb.out, if_neg (by omega)]; simp [bxT])
                        have HaM : Hid ((L.take (k2 + 1)).all bxOk = true) := mkHid (all_step HLk.out HaL.out had)
                        go_wp2
                        refine ⟨⟨k2 + 1, p163, by omega, by go_num, by omega, HpM, HaM, HO164, HB165, Hb166⟩, by simp [Lib.intOf]; omega⟩
                      · have hk0i : ¬ (0 : Int) < (k2 : Int) := by omega
                        go_wp2_with (at_builtin; go_must (refine wp_appG (w := w131) rfl _ _ 22 rfl i0 Tryz.underlying22 hi0 hy0 hy1 hy2 w.heap.size u4 pk rfl HO134.out _ [32] rfl 1 1 rfl rfl (by simp; omega) Hb133.out.size ?_; intro v138 w137 hO145 hG144; refine Hid.out ?_))
                        have hbA : Below w131.heap.size w131 (w131.alloc (.cells #[.int .u8 32] 5)) := (Below.refl _ _).alloc (Nat.le_refl _) _
                        have hA1 : (w131.alloc (.cells #[.int .u8 32] 5)).heap[Bk]? = some (.cells #[.bool true, .string nm, .string bn, .string bl, .string bd, .slice (some ⟨gm, 0, none⟩) L.length cm] 37 (0, 0)) := (hbA.block Bk (hp_lt HB132.out)).trans HB132.out
                        have hA2 : Own w.heap.size u4 pk (w131.alloc (.cells #[.int .u8 32] 5)) := World.ownsRow.alloc HO134.out _
                        have HB141 : Hid (w137.heap[Bk]? = some (.cells #[.bool true, .string nm, .string bn, .string bl, .string bd, .slice (some ⟨gm, 0, none⟩) L.length cm] 37 (0, 0))) := (hG144.block Bk (hp_lt hA1) (fun e => own_not_blockX hA2 hA1 (by decide) e.symm)).trans hA1
                        have Hb142 : Hid (Below w.heap.size w w137) := ((Hb133.out.alloc Hb133.out.size _)).grown hG144 (by have := Hb133.out.size; simp; omega) (fun k hk => (World.ownsRow.lt hA2 k hk).1)
                        have HO140 := mkHid hO145
                        have hp143 : (pk ++ [32]).length ≤ pk.length + 1 := by simp
                        clear hbA hA1 hA2 hO145 hG144 HO134 HB132 Hb133
                        obtain ⟨p139, hpe⟩ : ∃ q : List UInt8, pk ++ [32] = q := ⟨_, rfl⟩
                        rw [hpe] at hp143 HO140
                        have Hqp139 := mkHid hpe
                        clear hpe
                        refine mkHid ?_
                        have x5 : w137.cell? ⟨Bk, 5, none⟩ = some (.slice (some ⟨gm, 0, none⟩) L.length cm) := by simp [World.cell?, HB141.out]
                        have y0 : w137.cell? ⟨gm, k2 * 3, none⟩ = some (.string mn) := (Hb142.out.cell (p := ⟨gm, k2 * 3, none⟩) hgmw).trans m0
                        have y1 : w137.cell? ⟨gm, k2 * 3 + 1, none⟩ = some (.string ml) := (Hb142.out.cell (p := ⟨gm, k2 * 3 + 1, none⟩) hgmw).trans m1
                        have y2 : w137.cell? ⟨gm, k2 * 3 + 2, none⟩ = some (.string md) := (Hb142.out.cell (p := ⟨gm, k2 * 3 + 2, none⟩) hgmw).trans m2
                        have hN151 := specBox mn ml md w137 (by omega) (by omega) (by omega)
                        go_wp2_with fail
                        refine hN151.mono ?_
                        rintro e w146 ⟨rfl, hb150⟩
                        have HB147 : Hid (w146.heap[Bk]? = some (.cells #[.bool true, .string nm, .string bn, .string bl, .string bd, .slice (some ⟨gm, 0, none⟩) L.length cm] 37 (0, 0))) := (hb150.block Bk (hp_lt HB141.out)).trans HB141.out
                        have Hb148 : Hid (Below w.heap.size w w146) := Hb142.out.trans (hb150.mono Hb142.out.size)
                        have HO149 := mkHid (Own.belowG HO140.out hb150)
                        clear hN151 hb150 HO140 HB141 Hb142
                        clear x5 y0 y1 y2
                        have htz := boxT_sizeX (show mn.size ≤ 66 ∧ ml.size ≤ 66 ∧ md.size ≤ 66 from ⟨by omega, by omega, by omega⟩)
                        generalize htb : boxT mn ml md = tb at htz ⊢
                        have Htb := mkHid htb
                        clear htb
                        go_wp2_with (at_builtin; go_must (refine wp_appsG (w := w146) rfl _ _ 22 9 rfl i0 Tryz.underlying22 Tryz.underlying9 hi0 hy0 hy1 hy2 w.heap.size v138 p139 rfl HO149.out tb rfl (by omega) Hb148.out.size ?_; intro v153 w152 hO160 hG159; refine Hid.out ?_))
                        have HB156 : Hid (w152.heap[Bk]? = some (.cells #[.bool true, .string nm, .string bn, .string bl, .string bd, .slice (some ⟨gm, 0, none⟩) L.length cm] 37 (0, 0))) := (hG159.block Bk (hp_lt HB147.out) (fun e => own_not_blockX HO149.out HB147.out (by decide) e.symm)).trans HB147.out
                        have Hb157 : Hid (Below w.heap.size w w152) := Hb148.out.grown hG159 Hb148.out.size (fun k hk => (World.ownsRow.lt HO149.out k hk).1)
                        have HO155 := mkHid hO160
                        have hp158 : (p139 ++ tb.data.toList).length ≤ p139.length + tb.size := by simp
                        clear hO160 hG159 HO149 HB147 Hb148
                        obtain ⟨p154, hpe⟩ : ∃ q : List UInt8, p139 ++ tb.data.toList = q := ⟨_, rfl⟩
                        rw [hpe] at hp158 HO155
                        have Hqp154 := mkHid hpe
                        clear hpe
                        refine mkHid ?_
                        have HpM : Hid (p154 = p124 ++ mbT (L.take (k2 + 1))) := mkHid (by rw [mb_step HLk.out hlk, ← Hqp154.out, ← Hqp139.out, Hpk.out, ← Htb.out, if_pos (by omega)]; simp [bxT])
                        have HaM : Hid ((L.take (k2 + 1)).all bxOk = true) := mkHid (all_step HLk.out HaL.out had)
                        go_wp2
                        refine ⟨⟨k2 + 1, p154, by omega, by go_num, by omega, HpM, HaM, HO155, HB156, Hb157⟩, by simp [Lib.intOf]; omega⟩
                    · have hdb : (dc == 0) = false := beq_eq_false_iff_ne.2 hdc
                      have hbad := HXe.out (group_bad4 (all_bad HLk.out had))
                      go_wp2
                      go_ret
                      exact ⟨by rw [hbad]; rfl, Hb133.out⟩
                  · skip
                    have x5 : wr.cell? ⟨Bk, 5, none⟩ = some (.slice om L.length cm) := by simp [World.cell?, HB.out]
                    have hLt : L.take k2 = L := List.take_of_length_le (by omega)
                    go_wp2_with (at_builtin; go_must (refine wp_appG (w := wr) rfl _ _ 22 rfl i0 Tryz.underlying22 hi0 hy0 hy1 hy2 w.heap.size u4 pk rfl HO.out _ [59] rfl 1 1 rfl rfl (by simp; omega) Hb.out.size ?_; intro v132 w131 hO139 hG138; refine Hid.out ?_))
                    have hbA : Below wr.heap.size wr (wr.alloc (.cells #[.int .u8 59] 5)) := (Below.refl _ _).alloc (Nat.le_refl _) _
                    have hA1 : (wr.alloc (.cells #[.int .u8 59] 5)).heap[Bk]? = some (.cells #[.bool true, .string nm, .string bn, .string bl, .string bd, .slice om L.length cm] 37 (0, 0)) := (hbA.block Bk (hp_lt HB.out)).trans HB.out
                    have hA2 : Own w.heap.size u4 pk (wr.alloc (.cells #[.int .u8 59] 5)) := World.ownsRow.alloc HO.out _
                    have HB135 : Hid (w131.heap[Bk]? = some (.cells #[.bool true, .string nm, .string bn, .string bl, .string bd, .slice om L.length cm] 37 (0, 0))) := (hG138.block Bk (hp_lt hA1) (fun e => own_not_blockX hA2 hA1 (by decide) e.symm)).trans hA1
                    have Hb136 : Hid (Below w.heap.size w w131) := ((Hb.out.alloc Hb.out.size _)).grown hG138 (by have := Hb.out.size; simp; omega) (fun k hk => (World.ownsRow.lt hA2 k hk).1)
                    have HO134 := mkHid hO139
                    have hp137 : (pk ++ [59]).length ≤ pk.length + 1 := by simp
                    clear hbA hA1 hA2 hO139 hG138 HO HB Hb
                    obtain ⟨p133, hpe⟩ : ∃ q : List UInt8, pk ++ [59] = q := ⟨_, rfl⟩
                    rw [hpe] at hp137 HO134
                    have Hqp133 := mkHid hpe
                    clear hpe
                    refine mkHid ?_
                    have HpE : Hid (p133 = esT (F.take (i + 1))) := mkHid (by rw [es_step HFi.out (by omega), ← Hqp133.out, Hpk.out, hLt, ← Hqp124.out, ← Hqp115.out, Hpc.out, ← Htp.out, enT_groupX]; simp [phr])
                    have HaE : Hid ((F.take (i + 1)).all enOk = true) := mkHid (all_step HFi.out Hall.out (group_good Hb1x.out Hnm.out Hb2x.out (by have h9 := HaL.out; rwa [hLt] at h9)))
                    go_wp2
                    refine ⟨⟨i + 1, nn + L.length, p133, by omega, by go_num, by go_num, by omega, by omega, HpE, HaE, HO134, Hb136⟩, by simp [Lib.intOf]; omega⟩
    · have hbk := HO.out.back (P := Tryz.prog) 22 9 Tryz.underlying22 Tryz.underlying5 Tryz.underlying9
      have hFt : F.take i = F := List.take_of_length_le (by omega)
      have hXe : X = ⟨p.toArray⟩ := by
        have h8 := Hall.out
        rw [hFt] at h8
        rw [HX.out, if_pos h8, Hpi.out, hFt]
      go_wp2
      go_ret
      exact ⟨by rw [hXe]; rfl, Hb.out⟩
end Go.Proofs.YtadoifnfgoonaaaGreatDoor
