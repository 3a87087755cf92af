
/- A source of draws: a box that may be spoiled. -/

/- The draws of WriteAddresses. -/
import Derived.Test.YtadoifnfgoonaaaGreatDoorAppG
import Derived.Test.YtadoifnfgoonaaaGreatDoorWildSpoil
import Derived.Test.YtadoifnfgoonaaaGreatDoorSpecPlainX
namespace Go.Proofs.YtadoifnfgoonaaaGreatDoor
open Go.RowKit Go.Lib Go.Maps
set_option maxRecDepth 20000 in
set_option maxHeartbeats 8000000 in
theorem srcAnyBox (g : Nat) (o : Option Addr) (c : List UInt8) (cp a z : Nat) (w : World) (h : Src w g o c.length cp a z) (hc : Code g w o c) (ha : a ≤ 700000000000) (hl : c.length ≤ 1048576) :
    Calls Tryz.prog 18 #[.pointer (some ⟨g, 0, none⟩)] w fun e w' => ∃ (n l d : ByteArray) (a' : Nat), e = .returned (.agg #[.string n, .string l, .string d]) ∧ (n.size ≤ 21 ∧ l.size ≤ 66 ∧ d.size ≤ 29) ∧ a' ≤ a + 100 ∧ Src w' g o c.length cp a' z ∧ w.grownBy w' (some g) := by
  have HC : Hid (Code g w o c) := hc
  have hgl := h.lt
  have Hs := mkHid h
  have Hg : Hid (w.grownBy w (some g)) := gr_refl _ _
  clear h hc
  go_enter Tryz.func18, Tryz.ntmps18
  obtain ⟨W1, hW1⟩ : ∃ W, w.alloc (.cells #[.string ⟨#[]⟩, .string ⟨#[]⟩, .string ⟨#[]⟩] 35) = W := ⟨_, rfl⟩
  have b1 : Below w.heap.size w W1 := by rw [← hW1]; exact (Below.refl _ _).alloc (Nat.le_refl _) _
  obtain ⟨R, hR⟩ : ∃ R, R = w.heap.size := ⟨_, rfl⟩
  have HR0 : Hid (W1.heap[R]? = some (.cells #[.string ⟨#[]⟩, .string ⟨#[]⟩, .string ⟨#[]⟩] 35 (0, 0))) := by rw [← hW1, hR]; exact hp_alloc _ _
  have Hs1 := mkHid (Hs.out.below b1)
  have Hg1 : Hid (w.grownBy W1 (some g)) := gr_below b1
  have HW1 := mkHid hW1
  have hRg : g < R := by omega
  have hRw : w.heap.size ≤ R := by omega
  have HRe := mkHid hR
  clear b1 hW1 Hs Hg hR
  have hN106 := srcBox g o c cp a z W1 Hs1.out (HC.out.grown Hg1.out (Nat.le_refl _)) (by omega) hl
  go_wp2_with fail
  rw [HW1.out, ← HRe.out]
  refine hN106.mono ?_
  rintro e w101 ⟨n, l, d, a1, rfl, ⟨hn, hll, hd⟩, ha1, hs104, hg105⟩
  have Hs102 := mkHid hs104
  have Hg103 := mkHid (gr_trans Hg1.out hg105)
  have HB107 : Hid (w101.heap[R]? = some (.cells #[.string ⟨#[]⟩, .string ⟨#[]⟩, .string ⟨#[]⟩] 35 (0, 0))) := (hg105.block R (hp_lt HR0.out) (by intro e; have := Option.some.inj e; omega)).trans HR0.out
  clear HR0
  clear hN106 hs104 hg105 Hs1 Hg1
  obtain ⟨V5, hV5⟩ : ∃ V, w101.alloc (.cells #[.string n, .string l, .string d] 35) = V := ⟨_, rfl⟩
  have hb5 : Below w101.heap.size w101 V5 := by rw [← hV5]; exact (Below.refl _ _).alloc (Nat.le_refl _) _
  obtain ⟨Bk, hBk⟩ : ∃ Bk, Bk = w101.heap.size := ⟨_, rfl⟩
  have HB5 : Hid (V5.heap[Bk]? = some (.cells #[.string n, .string l, .string d] 35 (0, 0))) := by rw [← hV5, hBk]; exact hp_alloc _ _
  have hBkg : g < Bk := by rw [hBk]; exact Hs102.out.lt
  have hBkw : w.heap.size ≤ Bk := by rw [hBk]; exact Hg103.out.size
  have hRB : R < Bk := by rw [hBk]; exact hp_lt HB107.out
  have HR5 : Hid (V5.heap[R]? = some (.cells #[.string ⟨#[]⟩, .string ⟨#[]⟩, .string ⟨#[]⟩] 35 (0, 0))) := (hb5.block R (hp_lt HB107.out)).trans HB107.out
  have Hs5 := mkHid (Hs102.out.below hb5)
  have Hg5 := mkHid (gr_trans Hg103.out (gr_below hb5))
  have HV5 := mkHid hV5
  have HBk := mkHid hBk
  clear hV5 hBk hb5 HB107 Hs102 Hg103
  have hN114 := srcN g o c cp a1 z 8 V5 Hs5.out (HC.out.grown Hg5.out (Nat.le_refl _)) (by omega) hl (by omega) (by omega)
  go_wp2_with fail
  rw [HV5.out, ← HBk.out]
  clear HV5 HBk HW1 HRe
  refine hN114.mono ?_
  rintro e w109 ⟨v108, rfl, hv108, hs112, hg113⟩
  have Hs110 := mkHid hs112
  have Hg111 := mkHid (gr_trans Hg5.out hg113)
  have HB115 : Hid (w109.heap[R]? = some (.cells #[.string ⟨#[]⟩, .string ⟨#[]⟩, .string ⟨#[]⟩] 35 (0, 0))) := (hg113.block R (hp_lt HR5.out) (by intro e; have := Option.some.inj e; omega)).trans HR5.out
  have HB116 : Hid (w109.heap[Bk]? = some (.cells #[.string n, .string l, .string d] 35 (0, 0))) := (hg113.block Bk (hp_lt HB5.out) (by intro e; have := Option.some.inj e; omega)).trans HB5.out
  clear HR5 HB5
  clear hN114 hs112 hg113 Hs5 Hg5
  by_cases h0 : v108 = 0
  · skip
    have e0 : ((v108 : Int) == 0) = true := by rw [h0]; rfl
    clear h0
    have hcq117 : w109.cell? ⟨Bk, 1, none⟩ = some (.string l) := by simp [World.cell?, HB116.out]
    have hfq117 : w109.frozen? ⟨Bk, 1, none⟩ = false := by simp [World.frozen?, HB116.out]
    have HBq117 : Hid ((w109.setCell ⟨Bk, 1, none⟩ (.string ⟨#[]⟩)).heap[Bk]? = some (.cells #[.string n, .string ⟨#[]⟩, .string d] 35 (0, 0))) := by show _ = _; simp [World.setCell, Array.getElem?_modify, HB116.out]
    have HRq117 : Hid ((w109.setCell ⟨Bk, 1, none⟩ (.string ⟨#[]⟩)).heap[R]? = some (.cells #[.string ⟨#[]⟩, .string ⟨#[]⟩, .string ⟨#[]⟩] 35 (0, 0))) := by show _ = _; simp [World.setCell, Array.getElem?_modify, HB115.out, show Bk ≠ R by omega]
    have Hsq117 : Hid (Src (w109.setCell ⟨Bk, 1, none⟩ (.string ⟨#[]⟩)) g o c.length cp (a1 + 1) z) := Hs110.out.setC (by omega)
    have Hgq117 : Hid (w.grownBy (w109.setCell ⟨Bk, 1, none⟩ (.string ⟨#[]⟩)) (some g)) := gr_setC Hg111.out hBkw
    go_wp2_with (first | (refine wpL_store_row rfl 35 _ _ rfl R _ rfl rfl 35 _ HRq117.out (by kernel_rfl) rfl (by simp [Value.oneCell']) ?_) | (refine wpL_load_row rfl 35 _ rfl Bk _ 35 (0, 0) _ rfl HBq117.out Tryz.underlying35 rfl (by kernel_rfl) ?_))
    refine bodyPost_ret (v := .agg #[.string n, .string ⟨#[]⟩, .string d]) (results_cell_row Tryz.results18 _ _ R 35 _ (0, 0) _ rfl (setRow_heap _ _ _ _ _ _ HRq117.out) Tryz.underlying35 rfl (by kernel_rfl)) rfl ?_
    exact ⟨n, ⟨#[]⟩, d, _, rfl, ⟨by omega, Nat.zero_le _, by omega⟩, by omega, Hsq117.out.setR (by omega), gr_setR Hgq117.out hRw⟩
  by_cases h0 : v108 = 1
  · skip
    have e0 : ((v108 : Int) == 0) = false := beq_eq_false_iff_ne.2 (by omega)
    have e1 : ((v108 : Int) == 1) = true := by rw [h0]; rfl
    clear h0
    have hcd : w109.cell? ⟨Bk, 2, none⟩ = some (.string d) := by simp [World.cell?, HB116.out]
    have hN122 := srcSpoil g o c cp (a1 + 1) z d w109 Hs110.out (HC.out.grown Hg111.out (Nat.le_refl _)) (by omega) hl (by omega)
    go_wp2_with fail
    refine hN122.mono ?_
    rintro e w117 ⟨q, a3, rfl, hq, ha3, hs120, hg121⟩
    have Hs118 := mkHid hs120
    have Hg119 := mkHid (gr_trans Hg111.out hg121)
    have HB123 : Hid (w117.heap[R]? = some (.cells #[.string ⟨#[]⟩, .string ⟨#[]⟩, .string ⟨#[]⟩] 35 (0, 0))) := (hg121.block R (hp_lt HB115.out) (by intro e; have := Option.some.inj e; omega)).trans HB115.out
    have HB124 : Hid (w117.heap[Bk]? = some (.cells #[.string n, .string l, .string d] 35 (0, 0))) := (hg121.block Bk (hp_lt HB116.out) (by intro e; have := Option.some.inj e; omega)).trans HB116.out
    clear HB115 HB116
    clear hN122 hs120 hg121 Hs110 Hg111
    clear hcd
    have hcq125 : w117.cell? ⟨Bk, 2, none⟩ = some (.string d) := by simp [World.cell?, HB124.out]
    have hfq125 : w117.frozen? ⟨Bk, 2, none⟩ = false := by simp [World.frozen?, HB124.out]
    have HBq125 : Hid ((w117.setCell ⟨Bk, 2, none⟩ (.string q)).heap[Bk]? = some (.cells #[.string n, .string l, .string q] 35 (0, 0))) := by show _ = _; simp [World.setCell, Array.getElem?_modify, HB124.out]
    have HRq125 : Hid ((w117.setCell ⟨Bk, 2, none⟩ (.string q)).heap[R]? = some (.cells #[.string ⟨#[]⟩, .string ⟨#[]⟩, .string ⟨#[]⟩] 35 (0, 0))) := by show _ = _; simp [World.setCell, Array.getElem?_modify, HB123.out, show Bk ≠ R by omega]
    have Hsq125 : Hid (Src (w117.setCell ⟨Bk, 2, none⟩ (.string q)) g o c.length cp a3 z) := Hs118.out.setC (by omega)
    have Hgq125 : Hid (w.grownBy (w117.setCell ⟨Bk, 2, none⟩ (.string q)) (some g)) := gr_setC Hg119.out hBkw
    go_wp2_with (first | (refine wpL_store_row rfl 35 _ _ rfl R _ rfl rfl 35 _ HRq125.out (by kernel_rfl) rfl (by simp [Value.oneCell']) ?_) | (refine wpL_load_row rfl 35 _ rfl Bk _ 35 (0, 0) _ rfl HBq125.out Tryz.underlying35 rfl (by kernel_rfl) ?_))
    refine bodyPost_ret (v := .agg #[.string n, .string l, .string q]) (results_cell_row Tryz.results18 _ _ R 35 _ (0, 0) _ rfl (setRow_heap _ _ _ _ _ _ HRq125.out) Tryz.underlying35 rfl (by kernel_rfl)) rfl ?_
    exact ⟨n, l, q, _, rfl, ⟨by omega, by omega, by omega⟩, by omega, Hsq125.out.setR (by omega), gr_setR Hgq125.out hRw⟩
  by_cases h0 : v108 = 2
  · skip
    have e0 : ((v108 : Int) == 0) = false := beq_eq_false_iff_ne.2 (by omega)
    have e1 : ((v108 : Int) == 1) = false := beq_eq_false_iff_ne.2 (by omega)
    have e2 : ((v108 : Int) == 2) = true := by rw [h0]; rfl
    clear h0
    have hcn : w109.cell? ⟨Bk, 0, none⟩ = some (.string n) := by simp [World.cell?, HB116.out]
    have m0 : ¬ 9223372036854775807 < n.size + 1 := by omega
    have hcq117 : w109.cell? ⟨Bk, 0, none⟩ = some (.string n) := by simp [World.cell?, HB116.out]
    have hfq117 : w109.frozen? ⟨Bk, 0, none⟩ = false := by simp [World.frozen?, HB116.out]
    have HBq117 : Hid ((w109.setCell ⟨Bk, 0, none⟩ (.string (n ++ ⟨#[7]⟩))).heap[Bk]? = some (.cells #[.string (n ++ ⟨#[7]⟩), .string l, .string d] 35 (0, 0))) := by show _ = _; simp [World.setCell, Array.getElem?_modify, HB116.out]
    have HRq117 : Hid ((w109.setCell ⟨Bk, 0, none⟩ (.string (n ++ ⟨#[7]⟩))).heap[R]? = some (.cells #[.string ⟨#[]⟩, .string ⟨#[]⟩, .string ⟨#[]⟩] 35 (0, 0))) := by show _ = _; simp [World.setCell, Array.getElem?_modify, HB115.out, show Bk ≠ R by omega]
    have Hsq117 : Hid (Src (w109.setCell ⟨Bk, 0, none⟩ (.string (n ++ ⟨#[7]⟩))) g o c.length cp (a1 + 1) z) := Hs110.out.setC (by omega)
    have Hgq117 : Hid (w.grownBy (w109.setCell ⟨Bk, 0, none⟩ (.string (n ++ ⟨#[7]⟩))) (some g)) := gr_setC Hg111.out hBkw
    go_wp2_with (first | (refine wpL_store_row rfl 35 _ _ rfl R _ rfl rfl 35 _ HRq117.out (by kernel_rfl) rfl (by simp [Value.oneCell']) ?_) | (refine wpL_load_row rfl 35 _ rfl Bk _ 35 (0, 0) _ rfl HBq117.out Tryz.underlying35 rfl (by kernel_rfl) ?_))
    refine bodyPost_ret (v := .agg #[.string (n ++ ⟨#[7]⟩), .string l, .string d]) (results_cell_row Tryz.results18 _ _ R 35 _ (0, 0) _ rfl (setRow_heap _ _ _ _ _ _ HRq117.out) Tryz.underlying35 rfl (by kernel_rfl)) rfl ?_
    exact ⟨(n ++ ⟨#[7]⟩), l, d, _, rfl, ⟨by rw [ByteArray.size_append]; show n.size + 1 ≤ 21; omega, by omega, by omega⟩, by omega, Hsq117.out.setR (by omega), gr_setR Hgq117.out hRw⟩
  by_cases h0 : v108 = 3
  · skip
    have e0 : ((v108 : Int) == 0) = false := beq_eq_false_iff_ne.2 (by omega)
    have e1 : ((v108 : Int) == 1) = false := beq_eq_false_iff_ne.2 (by omega)
    have e2 : ((v108 : Int) == 2) = false := beq_eq_false_iff_ne.2 (by omega)
    have e3 : ((v108 : Int) == 3) = true := by rw [h0]; rfl
    clear h0
    have hN123 := srcN g o c cp (a1 + 1) z 5 w109 Hs110.out (HC.out.grown Hg111.out (Nat.le_refl _)) (by omega) hl (by omega) (by omega)
    go_wp2_with fail
    refine hN123.mono ?_
    rintro e w118 ⟨v117, rfl, hv117, hs121, hg122⟩
    have Hs119 := mkHid hs121
    have Hg120 := mkHid (gr_trans Hg111.out hg122)
    have HB124 : Hid (w118.heap[R]? = some (.cells #[.string ⟨#[]⟩, .string ⟨#[]⟩, .string ⟨#[]⟩] 35 (0, 0))) := (hg122.block R (hp_lt HB115.out) (by intro e; have := Option.some.inj e; omega)).trans HB115.out
    have HB125 : Hid (w118.heap[Bk]? = some (.cells #[.string n, .string l, .string d] 35 (0, 0))) := (hg122.block Bk (hp_lt HB116.out) (by intro e; have := Option.some.inj e; omega)).trans HB116.out
    clear HB115 HB116
    clear hN123 hs121 hg122 Hs110 Hg111
    have hcq126 : w118.cell? ⟨Bk, 1, none⟩ = some (.string l) := by simp [World.cell?, HB125.out]
    have hfq126 : w118.frozen? ⟨Bk, 1, none⟩ = false := by simp [World.frozen?, HB125.out]
    have HBq126 : Hid ((w118.setCell ⟨Bk, 1, none⟩ (.string ((⟨#[97, 98, 99, 100, 101, 102, 103, 104, 105, 106, 97, 98, 99, 100, 101, 102, 103, 104, 105, 106, 97, 98, 99, 100, 101, 102, 103, 104, 105, 106, 97, 98, 99, 100, 101, 102, 103, 104, 105, 106, 97, 98, 99, 100, 101, 102, 103, 104, 105, 106, 97, 98, 99, 100, 101, 102, 103, 104, 105, 106, 97, 98, 99, 100, 101, 102, 103, 104, 105, 106]⟩ : ByteArray).extract 0 (62 + v117)))).heap[Bk]? = some (.cells #[.string n, .string ((⟨#[97, 98, 99, 100, 101, 102, 103, 104, 105, 106, 97, 98, 99, 100, 101, 102, 103, 104, 105, 106, 97, 98, 99, 100, 101, 102, 103, 104, 105, 106, 97, 98, 99, 100, 101, 102, 103, 104, 105, 106, 97, 98, 99, 100, 101, 102, 103, 104, 105, 106, 97, 98, 99, 100, 101, 102, 103, 104, 105, 106, 97, 98, 99, 100, 101, 102, 103, 104, 105, 106]⟩ : ByteArray).extract 0 (62 + v117)), .string d] 35 (0, 0))) := by show _ = _; simp [World.setCell, Array.getElem?_modify, HB125.out]
    have HRq126 : Hid ((w118.setCell ⟨Bk, 1, none⟩ (.string ((⟨#[97, 98, 99, 100, 101, 102, 103, 104, 105, 106, 97, 98, 99, 100, 101, 102, 103, 104, 105, 106, 97, 98, 99, 100, 101, 102, 103, 104, 105, 106, 97, 98, 99, 100, 101, 102, 103, 104, 105, 106, 97, 98, 99, 100, 101, 102, 103, 104, 105, 106, 97, 98, 99, 100, 101, 102, 103, 104, 105, 106, 97, 98, 99, 100, 101, 102, 103, 104, 105, 106]⟩ : ByteArray).extract 0 (62 + v117)))).heap[R]? = some (.cells #[.string ⟨#[]⟩, .string ⟨#[]⟩, .string ⟨#[]⟩] 35 (0, 0))) := by show _ = _; simp [World.setCell, Array.getElem?_modify, HB124.out, show Bk ≠ R by omega]
    have Hsq126 : Hid (Src (w118.setCell ⟨Bk, 1, none⟩ (.string ((⟨#[97, 98, 99, 100, 101, 102, 103, 104, 105, 106, 97, 98, 99, 100, 101, 102, 103, 104, 105, 106, 97, 98, 99, 100, 101, 102, 103, 104, 105, 106, 97, 98, 99, 100, 101, 102, 103, 104, 105, 106, 97, 98, 99, 100, 101, 102, 103, 104, 105, 106, 97, 98, 99, 100, 101, 102, 103, 104, 105, 106, 97, 98, 99, 100, 101, 102, 103, 104, 105, 106]⟩ : ByteArray).extract 0 (62 + v117)))) g o c.length cp ((a1 + 1) + 1) z) := Hs119.out.setC (by omega)
    have Hgq126 : Hid (w.grownBy (w118.setCell ⟨Bk, 1, none⟩ (.string ((⟨#[97, 98, 99, 100, 101, 102, 103, 104, 105, 106, 97, 98, 99, 100, 101, 102, 103, 104, 105, 106, 97, 98, 99, 100, 101, 102, 103, 104, 105, 106, 97, 98, 99, 100, 101, 102, 103, 104, 105, 106, 97, 98, 99, 100, 101, 102, 103, 104, 105, 106, 97, 98, 99, 100, 101, 102, 103, 104, 105, 106, 97, 98, 99, 100, 101, 102, 103, 104, 105, 106]⟩ : ByteArray).extract 0 (62 + v117)))) (some g)) := gr_setC Hg120.out hBkw
    go_wp2_with (first | (refine wpL_store_row rfl 35 _ _ rfl R _ rfl rfl 35 _ HRq126.out (by kernel_rfl) rfl (by simp [Value.oneCell']) ?_) | (refine wpL_load_row rfl 35 _ rfl Bk _ 35 (0, 0) _ rfl HBq126.out Tryz.underlying35 rfl (by kernel_rfl) ?_))
    refine bodyPost_ret (v := .agg #[.string n, .string ((⟨#[97, 98, 99, 100, 101, 102, 103, 104, 105, 106, 97, 98, 99, 100, 101, 102, 103, 104, 105, 106, 97, 98, 99, 100, 101, 102, 103, 104, 105, 106, 97, 98, 99, 100, 101, 102, 103, 104, 105, 106, 97, 98, 99, 100, 101, 102, 103, 104, 105, 106, 97, 98, 99, 100, 101, 102, 103, 104, 105, 106, 97, 98, 99, 100, 101, 102, 103, 104, 105, 106]⟩ : ByteArray).extract 0 (62 + v117)), .string d]) (results_cell_row Tryz.results18 _ _ R 35 _ (0, 0) _ rfl (setRow_heap _ _ _ _ _ _ HRq126.out) Tryz.underlying35 rfl (by kernel_rfl)) rfl ?_
    exact ⟨n, ((⟨#[97, 98, 99, 100, 101, 102, 103, 104, 105, 106, 97, 98, 99, 100, 101, 102, 103, 104, 105, 106, 97, 98, 99, 100, 101, 102, 103, 104, 105, 106, 97, 98, 99, 100, 101, 102, 103, 104, 105, 106, 97, 98, 99, 100, 101, 102, 103, 104, 105, 106, 97, 98, 99, 100, 101, 102, 103, 104, 105, 106, 97, 98, 99, 100, 101, 102, 103, 104, 105, 106]⟩ : ByteArray).extract 0 (62 + v117)), d, _, rfl, ⟨by omega, by rw [ByteArray.size_extract]; omega, by omega⟩, by omega, Hsq126.out.setR (by omega), gr_setR Hgq126.out hRw⟩
  have e0 : ((v108 : Int) == 0) = false := beq_eq_false_iff_ne.2 (by omega)
  have e1 : ((v108 : Int) == 1) = false := beq_eq_false_iff_ne.2 (by omega)
  have e2 : ((v108 : Int) == 2) = false := beq_eq_false_iff_ne.2 (by omega)
  have e3 : ((v108 : Int) == 3) = false := beq_eq_false_iff_ne.2 (by omega)
  go_wp2_with (first | (refine wpL_store_row rfl 35 _ _ rfl R _ rfl rfl 35 _ HB115.out (by kernel_rfl) rfl (by simp [Value.oneCell']) ?_) | (refine wpL_load_row rfl 35 _ rfl Bk _ 35 (0, 0) _ rfl HB116.out Tryz.underlying35 rfl (by kernel_rfl) ?_))
  refine bodyPost_ret (v := .agg #[.string n, .string l, .string d]) (results_cell_row Tryz.results18 _ _ R 35 _ (0, 0) _ rfl (setRow_heap _ _ _ _ _ _ HB115.out) Tryz.underlying35 rfl (by kernel_rfl)) rfl ?_
  exact ⟨n, l, d, _, rfl, ⟨by omega, by omega, by omega⟩, by omega, Hs110.out.setR (by omega), gr_setR Hg111.out hRw⟩
end Go.Proofs.YtadoifnfgoonaaaGreatDoor
namespace Go.Proofs.YtadoifnfgoonaaaGreatDoor
open Go.RowKit Go.Lib Go.Maps
set_option maxRecDepth 20000 in
theorem OwnB.one {w : World} {b : Nat} (q : Bx3) (h : w.heap[b]? = some (.cells #[.string q.n, .string q.l, .string q.d] 35 (0, 0))) : OwnB b (.slice (some ⟨b, 0, none⟩) 1 1) [q] w :=
  ⟨rfl, .inr ⟨b, 1, #[.string q.n, .string q.l, .string q.d], rfl, Nat.le_refl _, h, Nat.le_refl _, by decide, rfl, rfl⟩⟩
set_option maxRecDepth 20000 in
theorem drawn_more {D : List EnE} (h1 : D.length ≤ 7) (h2 : ∀ e ∈ D, e.1.ok) (X : List EnE) (h3 : X.length ≤ 1) (h4 : ∀ e ∈ X, e.1.last) : Drawn ((D ++ X).map (·.1)) :=
  ⟨D.map (·.1), X.map (·.1), List.map_append, by simpa using h1, by simpa using h3, fun e he => by
    obtain ⟨x, hx, rfl⟩ := List.mem_map.1 he
    exact h2 x hx, fun e he => by
    obtain ⟨x, hx, rfl⟩ := List.mem_map.1 he
    exact h4 x hx⟩
set_option maxRecDepth 20000 in
set_option maxHeartbeats 8000000 in
theorem drawWriteAddrs (o : Option Addr) (c : List UInt8) (cp : Nat) (w : World) (hc : Code w.heap.size w o c) (hl : c.length ≤ 1048576) :
    Calls Tryz.prog 4 #[.slice o c.length cp] w fun e w' => ∃ (v : Value) (D : List EnE), e = .returned v ∧ Drawn (D.map (·.1)) ∧ Ens w.heap.size v D w' ∧ Below w.heap.size w w' := by
  have hS := srcNew o c.length cp w hl
  have HC : Hid (Code w.heap.size w o c) := hc
  clear hc
  go_enter Tryz.func4, Tryz.ntmps4
  go_wp2_with fail
  refine hS.mono ?_
  rintro e w2 ⟨z, rfl, hz, hs2, hb2⟩
  obtain ⟨g, hg⟩ : ∃ g, g = w.heap.size := ⟨_, rfl⟩
  have Hgw := mkHid hg
  rw [← hg] at hs2
  have hC2 : Code g w2 o c := by rw [hg]; exact HC.out.below hb2
  have hA := srcEntries g o c cp 0 z w2 hs2 hC2 (by omega) hl hz
  have Hb2 := mkHid hb2
  have HC2 := mkHid hC2
  have hgl := hs2.lt
  rw [hg] at hA
  clear hS hs2 hb2 hC2 hg
  go_wp2_with fail
  refine hA.mono ?_
  rw [← Hgw.out]
  rintro e w3 ⟨v, D, a3, rfl, hD, hok, hE3, ha3, hs3, hg3⟩
  have HE3 := mkHid hE3
  have Hok := mkHid hok
  have Hs3 := mkHid hs3
  have Hg3 := mkHid hg3
  have hN := srcN g o c cp a3 z 8 w3 hs3 (HC2.out.grown hg3 (Nat.le_refl _)) (by omega) hl (by omega) (by omega)
  clear hA hE3 hok hs3 hg3
  go_wp2_with fail
  refine hN.mono ?_
  rintro e w4 ⟨u, rfl, hu, hs4, hg4⟩
  have HE4 := mkHid (HE3.out.gr hg4 hgl)
  have Hg4 := mkHid (gr_trans Hg3.out hg4)
  have Hs4 := mkHid hs4
  clear hN hs4 hg4 HE3 Hg3 Hs3
  by_cases h0 : u = 0
  · skip
    have e0 : ((u : Int) == 0) = true := by rw [h0]; rfl
    clear h0
    have hN := srcAnyBox g o c cp (a3 + 1) z w4 Hs4.out (HC2.out.grown Hg4.out (Nat.le_refl _)) (by omega) hl
    go_wp2_with fail
    refine hN.mono ?_
    rintro e w5 ⟨n, l, d, a5, rfl, ⟨hn, hll, hd⟩, ha5, hs5, hg5⟩
    have HE5 := mkHid (HE4.out.gr hg5 hgl)
    have Hg5 := mkHid (gr_trans Hg4.out hg5)
    have Hs5 := mkHid hs5
    clear hN hs5 hg5 HE4 Hg4 Hs4
    obtain ⟨VA, hVA⟩ : ∃ V, w5.alloc (.cells #[.bool false, .string ⟨#[]⟩, .string n, .string l, .string d, .slice none 0 0] 37) = V := ⟨_, rfl⟩
    have bA : Below w5.heap.size w5 VA := by rw [← hVA]; exact (Below.refl _ _).alloc (Nat.le_refl _) _
    have HAl := mkHid (HE5.out.below bA)
    have hx0 : OwnB w2.heap.size (.slice none 0 0) [] VA := OwnB.below (w := w5) (OwnB.nil _ _) bA
    obtain ⟨q9, hq9⟩ : ∃ q : EnE, q = (⟨false, ⟨#[]⟩, n, l, d, []⟩, .slice none 0 0) := ⟨_, rfl⟩
    have HRo : Hid (∀ e ∈ [q9], OwnB w2.heap.size e.2 e.1.mem VA) := by
      intro e he
      simp only [List.mem_cons, List.not_mem_nil, or_false] at he
      subst he
      rw [hq9]
      exact hx0
    have n2 : VA.heap[w5.heap.size]? = some (.cells #[.bool false, .string ⟨#[]⟩, .string n, .string l, .string d, .slice none 0 0] 37 (0, 0)) := by rw [← hVA]; exact hp_alloc _ _
    have Hcs : Hid (∀ j u, (enCells [q9])[j]? = some u → VA.cell? ((⟨w5.heap.size, 0, none⟩ : Addr).add j) = some u) := by
      intro j u hj
      rw [Addr.add_lit, Nat.zero_add]
      rw [hq9] at hj
      match j, hj with
      | 0, hj => cases hj; simp [World.cell?, n2]
      | 1, hj => cases hj; simp [World.cell?, n2]
      | 2, hj => cases hj; simp [World.cell?, n2]
      | 3, hj => cases hj; simp [World.cell?, n2]
      | 4, hj => cases hj; simp [World.cell?, n2]
      | 5, hj => cases hj; simp [World.cell?, n2]
    have hsA : w2.heap.size ≤ VA.heap.size := Nat.le_trans Hg5.out.size bA.size
    have HVA := mkHid hVA
    have HgA := mkHid (gr_trans Hg5.out (gr_below bA))
    have Hlast : Hid (∀ e ∈ [q9], e.1.last) := by
      intro e he
      simp only [List.mem_cons, List.not_mem_nil, or_false] at he
      subst he
      rw [hq9]
      exact ⟨by show ByteArray.size ⟨#[]⟩ ≤ 20; decide, ⟨hn, hll, hd⟩, Nat.zero_le _, fun b hb => by cases hb⟩
    clear bA hx0 n2 hVA hq9 HE5
    go_wp2_with (at_builtin; go_must (rw [HVA.out]; refine wp_appEn (w := VA) rfl _ _ rfl w2.heap.size v D rfl HAl.out [q9] ⟨w5.heap.size, 0, none⟩ 1 1 rfl rfl Hcs.out HRo.out (by simp; omega) hsA ?_; intro v' w' hA' hG'; refine Hid.out ?_))
    have hblk : ∀ q, v.ownBlock = some q → w2.heap.size ≤ q := fun q hq => (World.ownsRow.lt HAl.out.row q hq).1
    have Hg2 := mkHid (gr_row HgA.out hG' hblk)
    have HA2 := mkHid hA'
    clear hA' hG' HAl HRo Hcs HVA HgA
    refine mkHid ?_
    go_wp2
    go_ret
    exact ⟨_, D ++ [q9], rfl, drawn_more hD Hok.out [q9] (Nat.le_refl _) Hlast.out, HA2.out.baseE Hb2.out.size, gr_new Hb2.out (by rw [← Hgw.out]; exact Hg2.out)⟩
  by_cases h0 : u = 1
  · skip
    have e0 : ((u : Int) == 0) = false := beq_eq_false_iff_ne.2 (by omega)
    have e1 : ((u : Int) == 1) = true := by rw [h0]; rfl
    clear h0
    have hN := srcAnyBox g o c cp (a3 + 1) z w4 Hs4.out (HC2.out.grown Hg4.out (Nat.le_refl _)) (by omega) hl
    go_wp2_with fail
    refine hN.mono ?_
    rintro e w5 ⟨n, l, d, a5, rfl, ⟨hn, hll, hd⟩, ha5, hs5, hg5⟩
    have HE5 := mkHid (HE4.out.gr hg5 hgl)
    have Hg5 := mkHid (gr_trans Hg4.out hg5)
    have Hs5 := mkHid hs5
    clear hN hs5 hg5 HE4 Hg4 Hs4
    obtain ⟨V5, hV5⟩ : ∃ V, w5.alloc (.cells #[.string n, .string l, .string d] 35) = V := ⟨_, rfl⟩
    have b5 : Below w5.heap.size w5 V5 := by rw [← hV5]; exact (Below.refl _ _).alloc (Nat.le_refl _) _
    have s5 : V5.heap.size = w5.heap.size + 1 := by rw [← hV5]; simp
    have HX5 : Hid (OwnB w5.heap.size (.slice (some ⟨w5.heap.size, 0, none⟩) 1 1) [⟨n, l, d⟩] V5) := OwnB.one ⟨n, l, d⟩ (by rw [← hV5]; exact hp_alloc _ _)
    have hb6 : ∀ cs, Below V5.heap.size V5 (V5.alloc (.cells cs 9)) := fun cs => (Below.refl _ _).alloc (Nat.le_refl _) _
    have hgV : g < V5.heap.size := by have := Hs5.out.lt; omega
    have HgV := mkHid (gr_trans Hg5.out (gr_below b5))
    have HEV := mkHid (HE5.out.below b5)
    have hN := fun cs => srcN g o c cp a5 z 3 (V5.alloc (.cells cs 9)) ((Hs5.out.below b5).below (hb6 cs)) (HC2.out.grown (gr_trans HgV.out (gr_below (hb6 cs))) (Nat.le_refl _)) (by omega) hl (by omega) (by omega)
    have HV5 := mkHid hV5
    have hg5l : w2.heap.size ≤ w5.heap.size := Hg5.out.size
    clear hV5 b5 HE5 Hs5 Hg5
    go_wp2_with fail
    rw [HV5.out]
    clear HV5
    refine (hN _).mono ?_
    rintro e w6 ⟨t6, rfl, ht6, hs6, hg6⟩
    obtain ⟨nm, hcnm, hznm⟩ := table_at (M := 3) hg6 hgV (show t6 < 3 by omega) (by decide)
    have ht3 : t6 < 3 := by omega
    rw [s5] at hcnm
    have hgg := gr_trans (gr_below (hb6 _)) hg6
    have HE6 := mkHid (HEV.out.gr hgg hgl)
    have Hg6 := mkHid (gr_trans HgV.out hgg)
    have HX6 := mkHid ((HX5.out.base hg5l).gr hgg hgl)
    clear hN hs6 hg6 hgg hb6 HEV HgV HX5
    obtain ⟨VA, hVA⟩ : ∃ V, w6.alloc (.cells #[.bool true, .string nm, .string ⟨#[]⟩, .string ⟨#[]⟩, .string ⟨#[]⟩, .slice (some ⟨w5.heap.size, 0, none⟩) 1 1] 37) = V := ⟨_, rfl⟩
    have bA : Below w6.heap.size w6 VA := by rw [← hVA]; exact (Below.refl _ _).alloc (Nat.le_refl _) _
    have HAl := mkHid (HE6.out.below bA)
    have hx0 : OwnB w2.heap.size (.slice (some ⟨w5.heap.size, 0, none⟩) 1 1) [⟨n, l, d⟩] VA := OwnB.below (w := w6) HX6.out bA
    obtain ⟨q9, hq9⟩ : ∃ q : EnE, q = (⟨true, nm, ⟨#[]⟩, ⟨#[]⟩, ⟨#[]⟩, [⟨n, l, d⟩]⟩, .slice (some ⟨w5.heap.size, 0, none⟩) 1 1) := ⟨_, rfl⟩
    have HRo : Hid (∀ e ∈ [q9], OwnB w2.heap.size e.2 e.1.mem VA) := by
      intro e he
      simp only [List.mem_cons, List.not_mem_nil, or_false] at he
      subst he
      rw [hq9]
      exact hx0
    have n2 : VA.heap[w6.heap.size]? = some (.cells #[.bool true, .string nm, .string ⟨#[]⟩, .string ⟨#[]⟩, .string ⟨#[]⟩, .slice (some ⟨w5.heap.size, 0, none⟩) 1 1] 37 (0, 0)) := by rw [← hVA]; exact hp_alloc _ _
    have Hcs : Hid (∀ j u, (enCells [q9])[j]? = some u → VA.cell? ((⟨w6.heap.size, 0, none⟩ : Addr).add j) = some u) := by
      intro j u hj
      rw [Addr.add_lit, Nat.zero_add]
      rw [hq9] at hj
      match j, hj with
      | 0, hj => cases hj; simp [World.cell?, n2]
      | 1, hj => cases hj; simp [World.cell?, n2]
      | 2, hj => cases hj; simp [World.cell?, n2]
      | 3, hj => cases hj; simp [World.cell?, n2]
      | 4, hj => cases hj; simp [World.cell?, n2]
      | 5, hj => cases hj; simp [World.cell?, n2]
    have hsA : w2.heap.size ≤ VA.heap.size := Nat.le_trans Hg6.out.size bA.size
    have HVA := mkHid hVA
    have HgA := mkHid (gr_trans Hg6.out (gr_below bA))
    have Hlast : Hid (∀ e ∈ [q9], e.1.last) := by
      intro e he
      simp only [List.mem_cons, List.not_mem_nil, or_false] at he
      subst he
      rw [hq9]
      exact ⟨by show nm.size ≤ 20; omega, ⟨by show ByteArray.size ⟨#[]⟩ ≤ 21; decide, by show ByteArray.size ⟨#[]⟩ ≤ 66; decide, by show ByteArray.size ⟨#[]⟩ ≤ 29; decide⟩, Nat.le_refl _, fun b hb => by simp only [List.mem_cons, List.not_mem_nil, or_false] at hb; subst hb; exact ⟨hn, hll, hd⟩⟩
    clear bA hx0 n2 hVA hq9 HE6
    go_wp2_with (at_builtin; go_must (rw [HVA.out]; refine wp_appEn (w := VA) rfl _ _ rfl w2.heap.size v D rfl HAl.out [q9] ⟨w6.heap.size, 0, none⟩ 1 1 rfl rfl Hcs.out HRo.out (by simp; omega) hsA ?_; intro v' w' hA' hG'; refine Hid.out ?_))
    have hblk : ∀ q, v.ownBlock = some q → w2.heap.size ≤ q := fun q hq => (World.ownsRow.lt HAl.out.row q hq).1
    have Hg2 := mkHid (gr_row HgA.out hG' hblk)
    have HA2 := mkHid hA'
    clear hA' hG' HAl HRo Hcs HVA HgA
    refine mkHid ?_
    go_wp2
    go_ret
    exact ⟨_, D ++ [q9], rfl, drawn_more hD Hok.out [q9] (Nat.le_refl _) Hlast.out, HA2.out.baseE Hb2.out.size, gr_new Hb2.out (by rw [← Hgw.out]; exact Hg2.out)⟩
  by_cases h0 : u = 2
  · skip
    have e0 : ((u : Int) == 0) = false := beq_eq_false_iff_ne.2 (by omega)
    have e1 : ((u : Int) == 1) = false := beq_eq_false_iff_ne.2 (by omega)
    have e2 : ((u : Int) == 2) = true := by rw [h0]; rfl
    clear h0
    have hN := srcBox g o c cp (a3 + 1) z w4 Hs4.out (HC2.out.grown Hg4.out (Nat.le_refl _)) (by omega) hl
    go_wp2_with fail
    refine hN.mono ?_
    rintro e w5 ⟨n, l, d, a5, rfl, ⟨hn, hll, hd⟩, ha5, hs5, hg5⟩
    have HE5 := mkHid (HE4.out.gr hg5 hgl)
    have Hg5 := mkHid (gr_trans Hg4.out hg5)
    have Hs5 := mkHid hs5
    clear hN hs5 hg5 HE4 Hg4 Hs4
    obtain ⟨VA, hVA⟩ : ∃ V, w5.alloc (.cells #[.bool false, .string ⟨#[120]⟩, .string n, .string l, .string d, .slice none 0 0] 37) = V := ⟨_, rfl⟩
    have bA : Below w5.heap.size w5 VA := by rw [← hVA]; exact (Below.refl _ _).alloc (Nat.le_refl _) _
    have HAl := mkHid (HE5.out.below bA)
    have hx0 : OwnB w2.heap.size (.slice none 0 0) [] VA := OwnB.below (w := w5) (OwnB.nil _ _) bA
    obtain ⟨q9, hq9⟩ : ∃ q : EnE, q = (⟨false, ⟨#[120]⟩, n, l, d, []⟩, .slice none 0 0) := ⟨_, rfl⟩
    have HRo : Hid (∀ e ∈ [q9], OwnB w2.heap.size e.2 e.1.mem VA) := by
      intro e he
      simp only [List.mem_cons, List.not_mem_nil, or_false] at he
      subst he
      rw [hq9]
      exact hx0
    have n2 : VA.heap[w5.heap.size]? = some (.cells #[.bool false, .string ⟨#[120]⟩, .string n, .string l, .string d, .slice none 0 0] 37 (0, 0)) := by rw [← hVA]; exact hp_alloc _ _
    have Hcs : Hid (∀ j u, (enCells [q9])[j]? = some u → VA.cell? ((⟨w5.heap.size, 0, none⟩ : Addr).add j) = some u) := by
      intro j u hj
      rw [Addr.add_lit, Nat.zero_add]
      rw [hq9] at hj
      match j, hj with
      | 0, hj => cases hj; simp [World.cell?, n2]
      | 1, hj => cases hj; simp [World.cell?, n2]
      | 2, hj => cases hj; simp [World.cell?, n2]
      | 3, hj => cases hj; simp [World.cell?, n2]
      | 4, hj => cases hj; simp [World.cell?, n2]
      | 5, hj => cases hj; simp [World.cell?, n2]
    have hsA : w2.heap.size ≤ VA.heap.size := Nat.le_trans Hg5.out.size bA.size
    have HVA := mkHid hVA
    have HgA := mkHid (gr_trans Hg5.out (gr_below bA))
    have Hlast : Hid (∀ e ∈ [q9], e.1.last) := by
      intro e he
      simp only [List.mem_cons, List.not_mem_nil, or_false] at he
      subst he
      rw [hq9]
      exact ⟨by show ByteArray.size ⟨#[120]⟩ ≤ 20; decide, ⟨by show n.size ≤ 21; omega, by show l.size ≤ 66; omega, by show d.size ≤ 29; omega⟩, Nat.zero_le _, fun b hb => by cases hb⟩
    clear bA hx0 n2 hVA hq9 HE5
    go_wp2_with (at_builtin; go_must (rw [HVA.out]; refine wp_appEn (w := VA) rfl _ _ rfl w2.heap.size v D rfl HAl.out [q9] ⟨w5.heap.size, 0, none⟩ 1 1 rfl rfl Hcs.out HRo.out (by simp; omega) hsA ?_; intro v' w' hA' hG'; refine Hid.out ?_))
    have hblk : ∀ q, v.ownBlock = some q → w2.heap.size ≤ q := fun q hq => (World.ownsRow.lt HAl.out.row q hq).1
    have Hg2 := mkHid (gr_row HgA.out hG' hblk)
    have HA2 := mkHid hA'
    clear hA' hG' HAl HRo Hcs HVA HgA
    refine mkHid ?_
    go_wp2
    go_ret
    exact ⟨_, D ++ [q9], rfl, drawn_more hD Hok.out [q9] (Nat.le_refl _) Hlast.out, HA2.out.baseE Hb2.out.size, gr_new Hb2.out (by rw [← Hgw.out]; exact Hg2.out)⟩
  have e0 : ((u : Int) == 0) = false := beq_eq_false_iff_ne.2 (by omega)
  have e1 : ((u : Int) == 1) = false := beq_eq_false_iff_ne.2 (by omega)
  have e2 : ((u : Int) == 2) = false := beq_eq_false_iff_ne.2 (by omega)
  have hd9 := drawn_more hD Hok.out [] (Nat.zero_le _) (fun e he => by cases he)
  rw [List.append_nil] at hd9
  go_wp2
  go_ret
  exact ⟨_, D, rfl, hd9, HE4.out.baseE Hb2.out.size, gr_new Hb2.out (by rw [← Hgw.out]; exact Hg4.out)⟩
end Go.Proofs.YtadoifnfgoonaaaGreatDoor
