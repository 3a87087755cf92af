
/- The program's lists, with a decoder. -/
import Derived.Test.YtillilllceeonaaDoorDwZero
namespace Go.Proofs.YtillilllceeonaaDoor
open Go.RowKit Go.Lib Go.Maps
set_option maxRecDepth 20000 in
theorem wp_cutA {P : Program} {c : Go.Code} {a : Act} {w : World} {Q : Exit → Act → World → Prop} (R : Act → Act → World → Prop) (h1 : c.wp P (fun x a' w' => x = .normal ∧ R a a' w') a w) (h2 : ∀ a' w', R a a' w' → Q .normal a' w') : c.wp P Q a w :=
  Go.Code.wp_mono (fun _ a' w' h => by obtain ⟨rfl, h⟩ := h; exact h2 a' w' h) h1
/-- A list of n things was read into the cell jo of block b. -/
def DecL (g r b jo n : Nat) (G : List UInt8) (cs : Array Value) (T : TypeId) (w w' : World) : Prop := ∃ o c, DecR g r b G (cs.setIfInBounds jo (.slice o n c)) T w w'
set_option maxRecDepth 20000 in
set_option maxHeartbeats 8000000 in
theorem decInts (g r b jo k m : Nat) (U : List Int) (F G : List UInt8) (cs : Array Value) (T : TypeId) (w : World) (h : Dec g r F w) (hb : b ≠ g) (hbr : b ≠ r) (hblk : w.heap[b]? = some (.cells cs T (0, 0))) (hj : cs[jo]? = some (.slice none 0 0)) (hFe : F = be k U.length ++ U.flatMap (fun u => be 4 u.toNat) ++ G) (hUb : ∀ u ∈ U, 0 ≤ u ∧ u ≤ 4294967295) (hk1 : 1 ≤ k) (hk : k ≤ 5) (hm : U.length ≤ m) (hm2 : m ≤ 300) (hkU : U.length < 256 ^ k) (hF : F.length ≤ 1000000) :
    Calls Tryd.prog 25 #[.iface 80 (.pointer (some ⟨g, 0, none⟩)), .pointer (some ⟨b, jo, none⟩), .int .i64 k, .int .i64 m, .func (.func 22) #[] #[]] w fun e w' => e = .returned (.tuple #[]) ∧ DecL g r b jo U.length G cs T w w' := by
  obtain ⟨i0, hi0, hz0, hz1, hz2⟩ := info_parts Tryd.info2
  obtain ⟨n, hnU⟩ : ∃ n, n = U.length := ⟨_, rfl⟩
  obtain ⟨W, hW⟩ : ∃ W, W = w.alloc (.cells #[.int .i64 0] 2) := ⟨_, rfl⟩
  have hbW : Below w.heap.size w W := by rw [hW]; exact (Below.refl _ _).alloc (Nat.le_refl _) _
  have hbl : b < w.heap.size := lt_of_blk hblk
  have hblkL : W.heap[w.heap.size]? = some (.cells #[.int .i64 0] 2 (0, 0)) := by rw [hW]; exact hp_alloc _ _
  have hlF : k ≤ F.length := by rw [hFe, List.length_append, List.length_append, be_len]; omega
  have htk : num (F.take k) = n := by
    rw [hFe, List.append_assoc, List.take_append_of_le_length (by rw [be_len]; omega), List.take_of_length_le (by rw [be_len]; omega), num_be, Nat.mod_eq_of_lt hkU, hnU]
  have hdr : F.drop k = U.flatMap (fun u => be 4 u.toNat) ++ G := by
    rw [hFe, List.append_assoc]
    have := be_len k U.length
    conv => lhs; arg 1; rw [← this]
    rw [List.drop_left]
  have cN := mkHid (decNumber g r w.heap.size 0 k n 0 m F #[.int .i64 0] #[.int .i64 n] 2 W (h.below hbW) (by have := h.gl; omega) (by have := h.rl; omega) hblkL 0 rfl rfl hlF htk hk1 hk (by omega) (by omega) hF)
  have cb : w.cell? ⟨b, jo, none⟩ = some (.slice none 0 0) := by simp [World.cell?, hblk, hj]
  have hGl : (U.flatMap (fun u => be 4 u.toNat) ++ G).length ≤ 1000000 := by rw [← hdr, List.length_drop]; omega
  have hn3 : n ≤ 300 := by omega
  have HW := mkHid hW
  have HbW := mkHid hbW
  have Hblk := mkHid hblk
  have Hj := mkHid hj
  have HnU := mkHid hnU
  have Hdr := mkHid hdr
  have HUb := mkHid hUb
  have hlL : Hid (w.heap.size < W.heap.size) := mkHid (lt_of_blk hblkL)
  have hrw := h.rl
  have hgw := h.gl
  clear h hW hbW hblk hj hblkL hFe hdr htk hlF hkU hUb hnU hm
  go_enter Tryd.func25, Tryd.ntmps25
  go_wp2_with fail
  rw [← HW.out]
  refine cN.out.mono ?_
  rintro e W1 ⟨rfl, hD1⟩
  obtain ⟨hd1, hL1, h21⟩ := hD1
  rw [Hdr.out] at hd1
  have hbk1 : W1.heap[b]? = some (.cells cs T (0, 0)) := (h21.keep b (Nat.lt_trans hbl hlL.out) hb (by omega)).trans ((HbW.out.block b hbl).trans Hblk.out)
  have c1 : W1.cell? ⟨b, jo, none⟩ = some (.slice none 0 0) := by simp [World.cell?, hbk1, Hj.out]
  have cL1 : W1.cell? ⟨w.heap.size, 0, none⟩ = some (.int .i64 n) := by simp [World.cell?, hL1]
  have H21 : Hid (D2 g b w W1) := mkHid (D2.new HbW.out h21 (Nat.le_refl _))
  obtain ⟨o, c, W2, hr2, hZ⟩ := appZeros (P := Tryd.prog) W1.drew 23 2 23 2 i0 (.int .i64 0) .i64 Tryd.underlying23 Tryd.underlying2 hi0 hz0 hz1 rfl n (by omega) (by rw [hz2]; decide)
  have hrun := mkHid hr2
  have hb12 : Below W1.heap.size W1 W2 := ⟨hZ.bel.os, hZ.bel.tape, hZ.bel.output, hZ.bel.size, hZ.bel.block⟩
  have hbl1 : b < W1.heap.size := lt_of_blk hbk1
  have hbk2 : W2.heap[b]? = some (.cells cs T (0, 0)) := (hb12.block b hbl1).trans hbk1
  have c2 : W2.cell? ⟨b, jo, none⟩ = some (.slice none 0 0) := by simp [World.cell?, hbk2, Hj.out]
  have z2 : W2.frozen? ⟨b, jo, none⟩ = false := by simp [World.frozen?, hbk2]
  obtain ⟨W4, hW4⟩ : ∃ X, X = W2.setCell ⟨b, jo, none⟩ (.slice o n c) := ⟨_, rfl⟩
  have hS := grG_set W2 b jo (.slice o n c)
  rw [← hW4] at hS
  have hd4 : Hid (Dec g r (U.flatMap (fun u => be 4 u.toNat) ++ G) W4) := mkHid ((hd1.below hb12).stored hS hb hbr)
  have hb4 : Hid (W4.heap[b]? = some (.cells (cs.setIfInBounds jo (.slice o n c)) T (0, 0))) := mkHid (by rw [hW4]; simp [World.setCell, Array.getElem?_modify, hbk2])
  have h24 : Hid (D2 g b w W4) := mkHid (H21.out.trans ((D2.of_below hb12).trans ⟨hS.os, hS.tape, hS.output, hS.size, fun k hk _ h9 => hS.block k hk (by intro e; cases e; exact h9 rfl)⟩))
  have hrow : Hid (0 < n → ∃ q zs, o = some ⟨q, 0, none⟩ ∧ w.heap.size ≤ q ∧ q ≠ g ∧ q ≠ r ∧ q ≠ b ∧ W4.heap[q]? = some (.cells zs 2 (0, 0)) ∧ ∀ j, j < n → zs[j]? = some (.int .i64 0)) := mkHid (by
    intro hn0
    obtain ⟨q, zs, e1, e2, e3, e4⟩ := hZ.row hn0
    have hsz : w.heap.size ≤ W1.heap.size := H21.out.size
    have e2' : W1.heap.size ≤ q := e2
    exact ⟨q, zs, e1, by omega, by omega, by omega, by omega, (hS.block q (lt_of_blk e3) (by intro e; cases e; omega)).trans e3, e4⟩)
  have HW4 := mkHid hW4
  have hcW4 : Hid (W4.cell? ⟨b, jo, none⟩ = some (.slice o n c)) := mkHid (by
    have hlt : jo < cs.size := by
      rcases Nat.lt_or_ge jo cs.size with h1 | h1
      · exact h1
      · have h9 := Hj.out
        rw [Array.getElem?_eq_none h1] at h9
        cases h9
    simp [World.cell?, hb4.out, hlt])
  clear hd1 hL1 h21 hbk1 cb cN hr2 hZ hb12 hbl1 hbk2 hS hW4
  have hsub : IntKind.i64.wrap (n : Int) = (n : Int) := wrap_in _ (by omega) (by omega)
  obtain ⟨RR, hRR⟩ : ∃ RR : Act → Act → World → Prop, RR = (fun a a' w' => a' = (((((((((((((a.put (some 20) (.pointer (some ⟨b, jo, none⟩))).put (some 21) (.pointer (some ⟨b, jo, none⟩))).put (some 22) (.pointer (some ⟨b, jo, none⟩))).put (some 23) (.slice none 0 0)).put (some 24) (.int .i64 n)).put (some 25) (.pointer (some ⟨b, jo, none⟩))).put (some 26) (.pointer (some ⟨b, jo, none⟩))).put (some 27) (.slice none 0 0)).put (some 28) (.int .i64 0)).put (some 29) (.int .i64 n)).put (some 30) (.slice o n c)).put (some 31) (.pointer (some ⟨b, jo, none⟩)))) ∧ w' = W4) := ⟨_, rfl⟩
  have HRR := mkHid hRR
  clear hRR
  go_wp2
  refine wp_cutA RR ?_ ?_
  · refine wp_region_any (by kernel_rfl) ?_
    refine wpAny_take (i := 0) (v := .pointer (some ⟨b, jo, none⟩)) rfl (by kernel_rfl) (by kernel_rfl) (by kernel_rfl) (fun _ _ _ h => nomatch h.1) (Or.inl ⟨by rfl, ?_⟩) ?_
    · intro w
      go_simp
      all_goals first | done | (intro h; exfalso; omega) | omega
    go_simp
    refine wpAny_take (i := 1) (v := .pointer (some ⟨b, jo, none⟩)) rfl (by kernel_rfl) (by kernel_rfl) (by kernel_rfl) (fun _ _ _ h => nomatch h.1) (Or.inl ⟨by rfl, ?_⟩) ?_
    · intro w
      go_simp
      all_goals first | done | (intro h; exfalso; omega) | omega
    go_simp
    refine wpAny_take (i := 2) (v := .pointer (some ⟨b, jo, none⟩)) rfl (by kernel_rfl) (by kernel_rfl) (by kernel_rfl) (fun _ _ _ h => nomatch h.1) (Or.inl ⟨by rfl, ?_⟩) ?_
    · intro w
      go_simp
      all_goals first | done | (intro h; exfalso; omega) | omega
    go_simp
    refine wpAny_take (i := 5) (v := .pointer (some ⟨b, jo, none⟩)) rfl (by kernel_rfl) (by kernel_rfl) (by kernel_rfl) (fun _ _ _ h => nomatch h.1) (Or.inl ⟨by rfl, ?_⟩) ?_
    · intro w
      go_simp
      all_goals first | done | (intro h; exfalso; omega) | omega
    go_simp
    refine wpAny_take (i := 6) (v := .pointer (some ⟨b, jo, none⟩)) rfl (by kernel_rfl) (by kernel_rfl) (by kernel_rfl) (fun _ _ _ h => nomatch h.1) (Or.inl ⟨by rfl, ?_⟩) ?_
    · intro w
      go_simp
      all_goals first | done | (intro h; exfalso; omega) | omega
    go_simp
    refine wpAny_ready (rs := [3, 4, 7]) (by kernel_rfl) (by simp) ?_
    refine AllReady.cons rfl (fun K hK => ?_) (AllReady.cons rfl (fun K hK => ?_) (AllReady.cons rfl (fun K hK => ?_) AllReady.nil))
    · go_simp
      refine hK _ _ ?_
      clear hK K
      go_simp
      refine wpAny_ready (rs := [4, 7]) (by kernel_rfl) (by simp) ?_
      refine AllReady.cons rfl (fun K hK => ?_) (AllReady.cons rfl (fun K hK => ?_) AllReady.nil)
      · go_simp
        refine hK _ _ ?_
        clear hK K
        go_simp
        refine wpAny_ready (rs := [7]) (by kernel_rfl) (by simp) ?_
        refine AllReady.cons rfl (fun K hK => ?_) AllReady.nil
        go_simp
        refine hK _ _ ?_
        clear hK K
        go_simp
        refine wpAny_take (i := 8) (v := .int .i64 0) rfl (by kernel_rfl) (by kernel_rfl) (by kernel_rfl) (fun _ _ _ h => nomatch h.1) (Or.inl ⟨by rfl, ?_⟩) ?_
        · intro w
          go_simp
          all_goals first | done | (intro h; exfalso; omega) | omega
        go_simp
        refine wpAny_take (i := 9) (v := .int .i64 (n : Int)) rfl (by kernel_rfl) (by kernel_rfl) (by kernel_rfl) (fun _ _ _ h => nomatch h.1) (Or.inl ⟨by rfl, ?_⟩) ?_
        · intro w
          go_simp
          all_goals first | done | (intro h; exfalso; omega) | omega
        go_simp
        refine wpAny_ready (rs := [10]) (by kernel_rfl) (by simp) ?_
        refine AllReady.cons rfl (fun K hK => ?_) AllReady.nil
        refine wp_append_run _ _ _ 23 2 rfl _ _ rfl rfl _ _ hrun.out ?_
        refine hK _ _ ?_
        clear hK K
        go_simp
        refine wpAny_ready (rs := [11]) (by kernel_rfl) (by simp) ?_
        refine AllReady.cons rfl (fun K hK => ?_) AllReady.nil
        go_simp
        refine hK _ _ ?_
        clear hK K
        go_simp
        refine wpAny_ready (rs := [12]) (by kernel_rfl) (by simp) ?_
        refine AllReady.cons rfl (fun K hK => ?_) AllReady.nil
        go_simp
        refine hK _ _ ?_
        clear hK K
        go_simp
        refine wpAny_done (by kernel_rfl) ?_ _
        rw [← HW4.out, HRR.out]
        exact ⟨rfl, by kernel_rfl, rfl⟩
      · go_simp
        refine hK _ _ ?_
        clear hK K
        go_simp
        refine wpAny_take (i := 8) (v := .int .i64 0) rfl (by kernel_rfl) (by kernel_rfl) (by kernel_rfl) (fun _ _ _ h => nomatch h.1) (Or.inl ⟨by rfl, ?_⟩) ?_
        · intro w
          go_simp
          all_goals first | done | (intro h; exfalso; omega) | omega
        go_simp
        refine wpAny_ready (rs := [4]) (by kernel_rfl) (by simp) ?_
        refine AllReady.cons rfl (fun K hK => ?_) AllReady.nil
        go_simp
        refine hK _ _ ?_
        clear hK K
        go_simp
        refine wpAny_take (i := 9) (v := .int .i64 (n : Int)) rfl (by kernel_rfl) (by kernel_rfl) (by kernel_rfl) (fun _ _ _ h => nomatch h.1) (Or.inl ⟨by rfl, ?_⟩) ?_
        · intro w
          go_simp
          all_goals first | done | (intro h; exfalso; omega) | omega
        go_simp
        refine wpAny_ready (rs := [10]) (by kernel_rfl) (by simp) ?_
        refine AllReady.cons rfl (fun K hK => ?_) AllReady.nil
        refine wp_append_run _ _ _ 23 2 rfl _ _ rfl rfl _ _ hrun.out ?_
        refine hK _ _ ?_
        clear hK K
        go_simp
        refine wpAny_ready (rs := [11]) (by kernel_rfl) (by simp) ?_
        refine AllReady.cons rfl (fun K hK => ?_) AllReady.nil
        go_simp
        refine hK _ _ ?_
        clear hK K
        go_simp
        refine wpAny_ready (rs := [12]) (by kernel_rfl) (by simp) ?_
        refine AllReady.cons rfl (fun K hK => ?_) AllReady.nil
        go_simp
        refine hK _ _ ?_
        clear hK K
        go_simp
        refine wpAny_done (by kernel_rfl) ?_ _
        rw [← HW4.out, HRR.out]
        exact ⟨rfl, by kernel_rfl, rfl⟩
    · go_simp
      refine hK _ _ ?_
      clear hK K
      go_simp
      refine wpAny_ready (rs := [3, 7]) (by kernel_rfl) (by simp) ?_
      refine AllReady.cons rfl (fun K hK => ?_) (AllReady.cons rfl (fun K hK => ?_) AllReady.nil)
      · go_simp
        refine hK _ _ ?_
        clear hK K
        go_simp
        refine wpAny_ready (rs := [7]) (by kernel_rfl) (by simp) ?_
        refine AllReady.cons rfl (fun K hK => ?_) AllReady.nil
        go_simp
        refine hK _ _ ?_
        clear hK K
        go_simp
        refine wpAny_take (i := 8) (v := .int .i64 0) rfl (by kernel_rfl) (by kernel_rfl) (by kernel_rfl) (fun _ _ _ h => nomatch h.1) (Or.inl ⟨by rfl, ?_⟩) ?_
        · intro w
          go_simp
          all_goals first | done | (intro h; exfalso; omega) | omega
        go_simp
        refine wpAny_take (i := 9) (v := .int .i64 (n : Int)) rfl (by kernel_rfl) (by kernel_rfl) (by kernel_rfl) (fun _ _ _ h => nomatch h.1) (Or.inl ⟨by rfl, ?_⟩) ?_
        · intro w
          go_simp
          all_goals first | done | (intro h; exfalso; omega) | omega
        go_simp
        refine wpAny_ready (rs := [10]) (by kernel_rfl) (by simp) ?_
        refine AllReady.cons rfl (fun K hK => ?_) AllReady.nil
        refine wp_append_run _ _ _ 23 2 rfl _ _ rfl rfl _ _ hrun.out ?_
        refine hK _ _ ?_
        clear hK K
        go_simp
        refine wpAny_ready (rs := [11]) (by kernel_rfl) (by simp) ?_
        refine AllReady.cons rfl (fun K hK => ?_) AllReady.nil
        go_simp
        refine hK _ _ ?_
        clear hK K
        go_simp
        refine wpAny_ready (rs := [12]) (by kernel_rfl) (by simp) ?_
        refine AllReady.cons rfl (fun K hK => ?_) AllReady.nil
        go_simp
        refine hK _ _ ?_
        clear hK K
        go_simp
        refine wpAny_done (by kernel_rfl) ?_ _
        rw [← HW4.out, HRR.out]
        exact ⟨rfl, by kernel_rfl, rfl⟩
      · go_simp
        refine hK _ _ ?_
        clear hK K
        go_simp
        refine wpAny_take (i := 8) (v := .int .i64 0) rfl (by kernel_rfl) (by kernel_rfl) (by kernel_rfl) (fun _ _ _ h => nomatch h.1) (Or.inl ⟨by rfl, ?_⟩) ?_
        · intro w
          go_simp
          all_goals first | done | (intro h; exfalso; omega) | omega
        go_simp
        refine wpAny_take (i := 9) (v := .int .i64 (n : Int)) rfl (by kernel_rfl) (by kernel_rfl) (by kernel_rfl) (fun _ _ _ h => nomatch h.1) (Or.inl ⟨by rfl, ?_⟩) ?_
        · intro w
          go_simp
          all_goals first | done | (intro h; exfalso; omega) | omega
        go_simp
        refine wpAny_ready (rs := [3]) (by kernel_rfl) (by simp) ?_
        refine AllReady.cons rfl (fun K hK => ?_) AllReady.nil
        go_simp
        refine hK _ _ ?_
        clear hK K
        go_simp
        refine wpAny_ready (rs := [10]) (by kernel_rfl) (by simp) ?_
        refine AllReady.cons rfl (fun K hK => ?_) AllReady.nil
        refine wp_append_run _ _ _ 23 2 rfl _ _ rfl rfl _ _ hrun.out ?_
        refine hK _ _ ?_
        clear hK K
        go_simp
        refine wpAny_ready (rs := [11]) (by kernel_rfl) (by simp) ?_
        refine AllReady.cons rfl (fun K hK => ?_) AllReady.nil
        go_simp
        refine hK _ _ ?_
        clear hK K
        go_simp
        refine wpAny_ready (rs := [12]) (by kernel_rfl) (by simp) ?_
        refine AllReady.cons rfl (fun K hK => ?_) AllReady.nil
        go_simp
        refine hK _ _ ?_
        clear hK K
        go_simp
        refine wpAny_done (by kernel_rfl) ?_ _
        rw [← HW4.out, HRR.out]
        exact ⟨rfl, by kernel_rfl, rfl⟩
    · go_simp
      refine hK _ _ ?_
      clear hK K
      go_simp
      refine wpAny_take (i := 8) (v := .int .i64 0) rfl (by kernel_rfl) (by kernel_rfl) (by kernel_rfl) (fun _ _ _ h => nomatch h.1) (Or.inl ⟨by rfl, ?_⟩) ?_
      · intro w
        go_simp
        all_goals first | done | (intro h; exfalso; omega) | omega
      go_simp
      refine wpAny_ready (rs := [3, 4]) (by kernel_rfl) (by simp) ?_
      refine AllReady.cons rfl (fun K hK => ?_) (AllReady.cons rfl (fun K hK => ?_) AllReady.nil)
      · go_simp
        refine hK _ _ ?_
        clear hK K
        go_simp
        refine wpAny_ready (rs := [4]) (by kernel_rfl) (by simp) ?_
        refine AllReady.cons rfl (fun K hK => ?_) AllReady.nil
        go_simp
        refine hK _ _ ?_
        clear hK K
        go_simp
        refine wpAny_take (i := 9) (v := .int .i64 (n : Int)) rfl (by kernel_rfl) (by kernel_rfl) (by kernel_rfl) (fun _ _ _ h => nomatch h.1) (Or.inl ⟨by rfl, ?_⟩) ?_
        · intro w
          go_simp
          all_goals first | done | (intro h; exfalso; omega) | omega
        go_simp
        refine wpAny_ready (rs := [10]) (by kernel_rfl) (by simp) ?_
        refine AllReady.cons rfl (fun K hK => ?_) AllReady.nil
        refine wp_append_run _ _ _ 23 2 rfl _ _ rfl rfl _ _ hrun.out ?_
        refine hK _ _ ?_
        clear hK K
        go_simp
        refine wpAny_ready (rs := [11]) (by kernel_rfl) (by simp) ?_
        refine AllReady.cons rfl (fun K hK => ?_) AllReady.nil
        go_simp
        refine hK _ _ ?_
        clear hK K
        go_simp
        refine wpAny_ready (rs := [12]) (by kernel_rfl) (by simp) ?_
        refine AllReady.cons rfl (fun K hK => ?_) AllReady.nil
        go_simp
        refine hK _ _ ?_
        clear hK K
        go_simp
        refine wpAny_done (by kernel_rfl) ?_ _
        rw [← HW4.out, HRR.out]
        exact ⟨rfl, by kernel_rfl, rfl⟩
      · go_simp
        refine hK _ _ ?_
        clear hK K
        go_simp
        refine wpAny_take (i := 9) (v := .int .i64 (n : Int)) rfl (by kernel_rfl) (by kernel_rfl) (by kernel_rfl) (fun _ _ _ h => nomatch h.1) (Or.inl ⟨by rfl, ?_⟩) ?_
        · intro w
          go_simp
          all_goals first | done | (intro h; exfalso; omega) | omega
        go_simp
        refine wpAny_ready (rs := [3]) (by kernel_rfl) (by simp) ?_
        refine AllReady.cons rfl (fun K hK => ?_) AllReady.nil
        go_simp
        refine hK _ _ ?_
        clear hK K
        go_simp
        refine wpAny_ready (rs := [10]) (by kernel_rfl) (by simp) ?_
        refine AllReady.cons rfl (fun K hK => ?_) AllReady.nil
        refine wp_append_run _ _ _ 23 2 rfl _ _ rfl rfl _ _ hrun.out ?_
        refine hK _ _ ?_
        clear hK K
        go_simp
        refine wpAny_ready (rs := [11]) (by kernel_rfl) (by simp) ?_
        refine AllReady.cons rfl (fun K hK => ?_) AllReady.nil
        go_simp
        refine hK _ _ ?_
        clear hK K
        go_simp
        refine wpAny_ready (rs := [12]) (by kernel_rfl) (by simp) ?_
        refine AllReady.cons rfl (fun K hK => ?_) AllReady.nil
        go_simp
        refine hK _ _ ?_
        clear hK K
        go_simp
        refine wpAny_done (by kernel_rfl) ?_ _
        rw [← HW4.out, HRR.out]
        exact ⟨rfl, by kernel_rfl, rfl⟩
  intro a' w' hr
  rw [HRR.out] at hr
  obtain ⟨rfl, rfl⟩ := hr
  clear c1 cL1 c2 z2 hrun HW4 H21 HRR Hj Hblk Hdr HbW HW
  go_simp
  have c9 := hcW4.out
  go_wp2
  go_loopw [36] (fun iv wr => ∃ i : Nat, i ≤ n ∧ iv = .int .i64 i ∧ Hid (Dec g r ((U.drop i).flatMap (fun u => be 4 u.toNat) ++ G) wr) ∧ Hid (wr.heap[b]? = some (.cells (cs.setIfInBounds jo (.slice o n c)) T (0, 0))) ∧ Hid (wr.cell? ⟨b, jo, none⟩ = some (.slice o n c)) ∧ Hid (D2 g b w wr) ∧ Hid (0 < n → ∃ q zs, o = some ⟨q, 0, none⟩ ∧ w.heap.size ≤ q ∧ q ≠ g ∧ q ≠ r ∧ q ≠ b ∧ wr.heap[q]? = some (.cells zs 2 (0, 0)) ∧ ∀ j, i ≤ j → j < n → zs[j]? = some (.int .i64 0))) (fun iv _ => n - (Lib.intOf iv).toNat)
  case atStart =>
    refine ⟨0, Nat.zero_le _, rfl, hd4, hb4, hcW4, h24, mkHid ?_⟩
    intro hn0
    obtain ⟨q, zs, e1, e2, e3, e4, e5, e6, e7⟩ := hrow.out hn0
    exact ⟨q, zs, e1, e2, e3, e4, e5, e6, fun j _ hj => e7 j hj⟩
  case round =>
    clear hd4 hb4 h24 hrow hcW4 c9
    obtain ⟨i, hi, rfl, HD, HB, HC, H2, HZ⟩ := hrel
    have cW := HC.out
    by_cases hlt : i < n
    · have hlti : (i : Int) < (n : Int) := by omega
      obtain ⟨q, zs, rfl, e2, e3, e4, e5, e6, e7⟩ := HZ.out (by omega)
      have hadd := add_off q i
      have hiU : i < U.length := by rw [← HnU.out]; exact hlt
      have hub := HUb.out U[i] (List.getElem_mem hiU)
      have hdc : (U.drop i).flatMap (fun u => be 4 u.toNat) ++ G = be 4 U[i].toNat ++ ((U.drop (i + 1)).flatMap (fun u => be 4 u.toNat) ++ G) := by rw [List.drop_eq_getElem_cons hiU, List.flatMap_cons, List.append_assoc]
      have hd := HD.out
      have hln : ((U.drop i).flatMap (fun u => be 4 u.toNat) ++ G).length ≤ 1000000 := by
        have h9 : U.flatMap (fun u => be 4 u.toNat) = (U.take i).flatMap (fun u => be 4 u.toNat) ++ (U.drop i).flatMap (fun u => be 4 u.toNat) := by rw [← List.flatMap_append, List.take_append_drop]
        rw [h9, List.append_assoc, List.length_append] at hGl
        omega
      rw [hdc] at hd hln
      clear hdc
      obtain ⟨Fr9, hFr⟩ : ∃ X, X = (U.drop (i + 1)).flatMap (fun u => be 4 u.toNat) ++ G := ⟨_, rfl⟩
      rw [← hFr] at hd hln
      have HFr := mkHid hFr
      clear hFr
      generalize U[i] = x at *
      have hl4 : (be 4 x.toNat).length = 4 := be_len _ _
      have ht4 : (be 4 x.toNat ++ Fr9).take 4 = be 4 x.toNat := by rw [List.take_append_of_le_length (by omega), List.take_of_length_le (by omega)]
      have hr4 : (be 4 x.toNat ++ Fr9).drop 4 = Fr9 := by conv => lhs; arg 1; rw [← hl4]
                                                          rw [List.drop_left]
      have cX := mkHid (decWord g r q i x.toNat (be 4 x.toNat ++ Fr9) zs _ 2 wr hd e3 e4 e6 0 (e7 i (Nat.le_refl _) hlt) rfl (by rw [List.length_append]; omega) (by rw [ht4, num_be]; omega) hln)
      rw [hr4] at cX
      clear ht4 hr4 hl4
      have hql : q < wr.heap.size := lt_of_blk e6
      clear hd HZ HD
      go_wp2_with fail
      refine cX.out.mono ?_
      rintro e w6 ⟨rfl, hR6⟩
      obtain ⟨hd6, hq6, h26⟩ := hR6
      have hbl9 : b < wr.heap.size := lt_of_blk HB.out
      have HB6 : Hid (w6.heap[b]? = some (.cells (cs.setIfInBounds jo (.slice (some ⟨q, 0, none⟩) n c)) T (0, 0))) := mkHid ((h26.keep b hbl9 hb (by omega)).trans HB.out)
      have HC6 : Hid (w6.cell? ⟨b, jo, none⟩ = some (.slice (some ⟨q, 0, none⟩) n c)) := mkHid ((World.cell?_of_block (a := ⟨b, jo, none⟩) (h26.keep b hbl9 hb (by omega))).trans HC.out)
      have H26 := mkHid (H2.out.far h26 e2)
      rw [HFr.out] at hd6
      have HD6 := mkHid hd6
      have HZ6 : Hid (0 < n → ∃ q' zs', (some ⟨q, 0, none⟩ : Option Addr) = some ⟨q', 0, none⟩ ∧ w.heap.size ≤ q' ∧ q' ≠ g ∧ q' ≠ r ∧ q' ≠ b ∧ w6.heap[q']? = some (.cells zs' 2 (0, 0)) ∧ ∀ j, i + 1 ≤ j → j < n → zs'[j]? = some (.int .i64 0)) := mkHid (fun _ => ⟨q, _, rfl, e2, e3, e4, e5, hq6, fun j h1 h2 => by
        rw [Array.getElem?_setIfInBounds_ne (by omega)]
        exact e7 j (by omega) h2⟩)
      clear hd6 hq6 h26 cX
      go_wp2
      go_roundw
      case rel => exact ⟨i + 1, by omega, by go_num, HD6, HB6, HC6, H26, HZ6⟩
      case measure => simp [Lib.intOf]; omega
    · skip
      have hlti : ¬ (i : Int) < (n : Int) := by omega
      have HF : Hid (DecL g r b jo U.length G cs T w wr) := mkHid (by
        have hd := HD.out
        rw [List.drop_of_length_le (by rw [← HnU.out]; omega)] at hd
        rw [← HnU.out]
        exact ⟨o, c, hd, HB.out, H2.out⟩)
      clear HD HB H2 HZ HC
      go_wp2
      exact bodyPost_end (v := .tuple #[]) (results_none Tryd.results25 _ _ _) rfl ⟨rfl, HF.out⟩
set_option maxRecDepth 20000 in
set_option maxHeartbeats 8000000 in
theorem decTexts (g r b jo k m : Nat) (U : List ByteArray) (F G : List UInt8) (cs : Array Value) (T : TypeId) (w : World) (h : Dec g r F w) (hb : b ≠ g) (hbr : b ≠ r) (hblk : w.heap[b]? = some (.cells cs T (0, 0))) (hj : cs[jo]? = some (.slice none 0 0)) (hFe : F = be k U.length ++ U.flatMap (fun u => be 1 u.size ++ u.data.toList) ++ G) (hUb : ∀ u ∈ U, u.size ≤ 255) (hk1 : 1 ≤ k) (hk : k ≤ 5) (hm : U.length ≤ m) (hm2 : m ≤ 300) (hkU : U.length < 256 ^ k) (hF : F.length ≤ 1000000) :
    Calls Tryd.prog 26 #[.iface 80 (.pointer (some ⟨g, 0, none⟩)), .pointer (some ⟨b, jo, none⟩), .int .i64 k, .int .i64 m, .func (.func 24) #[] #[]] w fun e w' => e = .returned (.tuple #[]) ∧ DecL g r b jo U.length G cs T w w' := by
  obtain ⟨i0, hi0, hz0, hz1, hz2⟩ := info_parts Tryd.info9X
  obtain ⟨n, hnU⟩ : ∃ n, n = U.length := ⟨_, rfl⟩
  obtain ⟨W, hW⟩ : ∃ W, W = w.alloc (.cells #[.int .i64 0] 2) := ⟨_, rfl⟩
  have hbW : Below w.heap.size w W := by rw [hW]; exact (Below.refl _ _).alloc (Nat.le_refl _) _
  have hbl : b < w.heap.size := lt_of_blk hblk
  have hblkL : W.heap[w.heap.size]? = some (.cells #[.int .i64 0] 2 (0, 0)) := by rw [hW]; exact hp_alloc _ _
  have hlF : k ≤ F.length := by rw [hFe, List.length_append, List.length_append, be_len]; omega
  have htk : num (F.take k) = n := by
    rw [hFe, List.append_assoc, List.take_append_of_le_length (by rw [be_len]; omega), List.take_of_length_le (by rw [be_len]; omega), num_be, Nat.mod_eq_of_lt hkU, hnU]
  have hdr : F.drop k = U.flatMap (fun u => be 1 u.size ++ u.data.toList) ++ G := by
    rw [hFe, List.append_assoc]
    have := be_len k U.length
    conv => lhs; arg 1; rw [← this]
    rw [List.drop_left]
  have cN := mkHid (decNumber g r w.heap.size 0 k n 0 m F #[.int .i64 0] #[.int .i64 n] 2 W (h.below hbW) (by have := h.gl; omega) (by have := h.rl; omega) hblkL 0 rfl rfl hlF htk hk1 hk (by omega) (by omega) hF)
  have cb : w.cell? ⟨b, jo, none⟩ = some (.slice none 0 0) := by simp [World.cell?, hblk, hj]
  have hGl : (U.flatMap (fun u => be 1 u.size ++ u.data.toList) ++ G).length ≤ 1000000 := by rw [← hdr, List.length_drop]; omega
  have hn3 : n ≤ 300 := by omega
  have HW := mkHid hW
  have HbW := mkHid hbW
  have Hblk := mkHid hblk
  have Hj := mkHid hj
  have HnU := mkHid hnU
  have Hdr := mkHid hdr
  have HUb := mkHid hUb
  have hlL : Hid (w.heap.size < W.heap.size) := mkHid (lt_of_blk hblkL)
  have hrw := h.rl
  have hgw := h.gl
  clear h hW hbW hblk hj hblkL hFe hdr htk hlF hkU hUb hnU hm
  go_enter Tryd.func26, Tryd.ntmps26
  go_wp2_with fail
  rw [← HW.out]
  refine cN.out.mono ?_
  rintro e W1 ⟨rfl, hD1⟩
  obtain ⟨hd1, hL1, h21⟩ := hD1
  rw [Hdr.out] at hd1
  have hbk1 : W1.heap[b]? = some (.cells cs T (0, 0)) := (h21.keep b (Nat.lt_trans hbl hlL.out) hb (by omega)).trans ((HbW.out.block b hbl).trans Hblk.out)
  have c1 : W1.cell? ⟨b, jo, none⟩ = some (.slice none 0 0) := by simp [World.cell?, hbk1, Hj.out]
  have cL1 : W1.cell? ⟨w.heap.size, 0, none⟩ = some (.int .i64 n) := by simp [World.cell?, hL1]
  have H21 : Hid (D2 g b w W1) := mkHid (D2.new HbW.out h21 (Nat.le_refl _))
  obtain ⟨o, c, W2, hr2, hZ⟩ := appZeros (P := Tryd.prog) W1.drew 24 2 24 9 i0 (.string ⟨#[]⟩) .i64 Tryd.underlying24 Tryd.underlying2 hi0 hz0 hz1 rfl n (by omega) (by rw [hz2]; decide)
  have hrun := mkHid hr2
  have hb12 : Below W1.heap.size W1 W2 := ⟨hZ.bel.os, hZ.bel.tape, hZ.bel.output, hZ.bel.size, hZ.bel.block⟩
  have hbl1 : b < W1.heap.size := lt_of_blk hbk1
  have hbk2 : W2.heap[b]? = some (.cells cs T (0, 0)) := (hb12.block b hbl1).trans hbk1
  have c2 : W2.cell? ⟨b, jo, none⟩ = some (.slice none 0 0) := by simp [World.cell?, hbk2, Hj.out]
  have z2 : W2.frozen? ⟨b, jo, none⟩ = false := by simp [World.frozen?, hbk2]
  obtain ⟨W4, hW4⟩ : ∃ X, X = W2.setCell ⟨b, jo, none⟩ (.slice o n c) := ⟨_, rfl⟩
  have hS := grG_set W2 b jo (.slice o n c)
  rw [← hW4] at hS
  have hd4 : Hid (Dec g r (U.flatMap (fun u => be 1 u.size ++ u.data.toList) ++ G) W4) := mkHid ((hd1.below hb12).stored hS hb hbr)
  have hb4 : Hid (W4.heap[b]? = some (.cells (cs.setIfInBounds jo (.slice o n c)) T (0, 0))) := mkHid (by rw [hW4]; simp [World.setCell, Array.getElem?_modify, hbk2])
  have h24 : Hid (D2 g b w W4) := mkHid (H21.out.trans ((D2.of_below hb12).trans ⟨hS.os, hS.tape, hS.output, hS.size, fun k hk _ h9 => hS.block k hk (by intro e; cases e; exact h9 rfl)⟩))
  have hrow : Hid (0 < n → ∃ q zs, o = some ⟨q, 0, none⟩ ∧ w.heap.size ≤ q ∧ q ≠ g ∧ q ≠ r ∧ q ≠ b ∧ W4.heap[q]? = some (.cells zs 9 (0, 0)) ∧ ∀ j, j < n → zs[j]? = some (.string ⟨#[]⟩)) := mkHid (by
    intro hn0
    obtain ⟨q, zs, e1, e2, e3, e4⟩ := hZ.row hn0
    have hsz : w.heap.size ≤ W1.heap.size := H21.out.size
    have e2' : W1.heap.size ≤ q := e2
    exact ⟨q, zs, e1, by omega, by omega, by omega, by omega, (hS.block q (lt_of_blk e3) (by intro e; cases e; omega)).trans e3, e4⟩)
  have HW4 := mkHid hW4
  have hcW4 : Hid (W4.cell? ⟨b, jo, none⟩ = some (.slice o n c)) := mkHid (by
    have hlt : jo < cs.size := by
      rcases Nat.lt_or_ge jo cs.size with h1 | h1
      · exact h1
      · have h9 := Hj.out
        rw [Array.getElem?_eq_none h1] at h9
        cases h9
    simp [World.cell?, hb4.out, hlt])
  clear hd1 hL1 h21 hbk1 cb cN hr2 hZ hb12 hbl1 hbk2 hS hW4
  have hsub : IntKind.i64.wrap (n : Int) = (n : Int) := wrap_in _ (by omega) (by omega)
  obtain ⟨RR, hRR⟩ : ∃ RR : Act → Act → World → Prop, RR = (fun a a' w' => a' = (((((((((((((a.put (some 20) (.pointer (some ⟨b, jo, none⟩))).put (some 21) (.pointer (some ⟨b, jo, none⟩))).put (some 22) (.pointer (some ⟨b, jo, none⟩))).put (some 23) (.slice none 0 0)).put (some 24) (.int .i64 n)).put (some 25) (.pointer (some ⟨b, jo, none⟩))).put (some 26) (.pointer (some ⟨b, jo, none⟩))).put (some 27) (.slice none 0 0)).put (some 28) (.int .i64 0)).put (some 29) (.int .i64 n)).put (some 30) (.slice o n c)).put (some 31) (.pointer (some ⟨b, jo, none⟩)))) ∧ w' = W4) := ⟨_, rfl⟩
  have HRR := mkHid hRR
  clear hRR
  go_wp2
  refine wp_cutA RR ?_ ?_
  · refine wp_region_any (by kernel_rfl) ?_
    refine wpAny_take (i := 0) (v := .pointer (some ⟨b, jo, none⟩)) rfl (by kernel_rfl) (by kernel_rfl) (by kernel_rfl) (fun _ _ _ h => nomatch h.1) (Or.inl ⟨by rfl, ?_⟩) ?_
    · intro w
      go_simp
      all_goals first | done | (intro h; exfalso; omega) | omega
    go_simp
    refine wpAny_take (i := 1) (v := .pointer (some ⟨b, jo, none⟩)) rfl (by kernel_rfl) (by kernel_rfl) (by kernel_rfl) (fun _ _ _ h => nomatch h.1) (Or.inl ⟨by rfl, ?_⟩) ?_
    · intro w
      go_simp
      all_goals first | done | (intro h; exfalso; omega) | omega
    go_simp
    refine wpAny_take (i := 2) (v := .pointer (some ⟨b, jo, none⟩)) rfl (by kernel_rfl) (by kernel_rfl) (by kernel_rfl) (fun _ _ _ h => nomatch h.1) (Or.inl ⟨by rfl, ?_⟩) ?_
    · intro w
      go_simp
      all_goals first | done | (intro h; exfalso; omega) | omega
    go_simp
    refine wpAny_take (i := 5) (v := .pointer (some ⟨b, jo, none⟩)) rfl (by kernel_rfl) (by kernel_rfl) (by kernel_rfl) (fun _ _ _ h => nomatch h.1) (Or.inl ⟨by rfl, ?_⟩) ?_
    · intro w
      go_simp
      all_goals first | done | (intro h; exfalso; omega) | omega
    go_simp
    refine wpAny_take (i := 6) (v := .pointer (some ⟨b, jo, none⟩)) rfl (by kernel_rfl) (by kernel_rfl) (by kernel_rfl) (fun _ _ _ h => nomatch h.1) (Or.inl ⟨by rfl, ?_⟩) ?_
    · intro w
      go_simp
      all_goals first | done | (intro h; exfalso; omega) | omega
    go_simp
    refine wpAny_ready (rs := [3, 4, 7]) (by kernel_rfl) (by simp) ?_
    refine AllReady.cons rfl (fun K hK => ?_) (AllReady.cons rfl (fun K hK => ?_) (AllReady.cons rfl (fun K hK => ?_) AllReady.nil))
    · go_simp
      refine hK _ _ ?_
      clear hK K
      go_simp
      refine wpAny_ready (rs := [4, 7]) (by kernel_rfl) (by simp) ?_
      refine AllReady.cons rfl (fun K hK => ?_) (AllReady.cons rfl (fun K hK => ?_) AllReady.nil)
      · go_simp
        refine hK _ _ ?_
        clear hK K
        go_simp
        refine wpAny_ready (rs := [7]) (by kernel_rfl) (by simp) ?_
        refine AllReady.cons rfl (fun K hK => ?_) AllReady.nil
        go_simp
        refine hK _ _ ?_
        clear hK K
        go_simp
        refine wpAny_take (i := 8) (v := .int .i64 0) rfl (by kernel_rfl) (by kernel_rfl) (by kernel_rfl) (fun _ _ _ h => nomatch h.1) (Or.inl ⟨by rfl, ?_⟩) ?_
        · intro w
          go_simp
          all_goals first | done | (intro h; exfalso; omega) | omega
        go_simp
        refine wpAny_take (i := 9) (v := .int .i64 (n : Int)) rfl (by kernel_rfl) (by kernel_rfl) (by kernel_rfl) (fun _ _ _ h => nomatch h.1) (Or.inl ⟨by rfl, ?_⟩) ?_
        · intro w
          go_simp
          all_goals first | done | (intro h; exfalso; omega) | omega
        go_simp
        refine wpAny_ready (rs := [10]) (by kernel_rfl) (by simp) ?_
        refine AllReady.cons rfl (fun K hK => ?_) AllReady.nil
        refine wp_append_run _ _ _ 24 2 rfl _ _ rfl rfl _ _ hrun.out ?_
        refine hK _ _ ?_
        clear hK K
        go_simp
        refine wpAny_ready (rs := [11]) (by kernel_rfl) (by simp) ?_
        refine AllReady.cons rfl (fun K hK => ?_) AllReady.nil
        go_simp
        refine hK _ _ ?_
        clear hK K
        go_simp
        refine wpAny_ready (rs := [12]) (by kernel_rfl) (by simp) ?_
        refine AllReady.cons rfl (fun K hK => ?_) AllReady.nil
        go_simp
        refine hK _ _ ?_
        clear hK K
        go_simp
        refine wpAny_done (by kernel_rfl) ?_ _
        rw [← HW4.out, HRR.out]
        exact ⟨rfl, by kernel_rfl, rfl⟩
      · go_simp
        refine hK _ _ ?_
        clear hK K
        go_simp
        refine wpAny_take (i := 8) (v := .int .i64 0) rfl (by kernel_rfl) (by kernel_rfl) (by kernel_rfl) (fun _ _ _ h => nomatch h.1) (Or.inl ⟨by rfl, ?_⟩) ?_
        · intro w
          go_simp
          all_goals first | done | (intro h; exfalso; omega) | omega
        go_simp
        refine wpAny_ready (rs := [4]) (by kernel_rfl) (by simp) ?_
        refine AllReady.cons rfl (fun K hK => ?_) AllReady.nil
        go_simp
        refine hK _ _ ?_
        clear hK K
        go_simp
        refine wpAny_take (i := 9) (v := .int .i64 (n : Int)) rfl (by kernel_rfl) (by kernel_rfl) (by kernel_rfl) (fun _ _ _ h => nomatch h.1) (Or.inl ⟨by rfl, ?_⟩) ?_
        · intro w
          go_simp
          all_goals first | done | (intro h; exfalso; omega) | omega
        go_simp
        refine wpAny_ready (rs := [10]) (by kernel_rfl) (by simp) ?_
        refine AllReady.cons rfl (fun K hK => ?_) AllReady.nil
        refine wp_append_run _ _ _ 24 2 rfl _ _ rfl rfl _ _ hrun.out ?_
        refine hK _ _ ?_
        clear hK K
        go_simp
        refine wpAny_ready (rs := [11]) (by kernel_rfl) (by simp) ?_
        refine AllReady.cons rfl (fun K hK => ?_) AllReady.nil
        go_simp
        refine hK _ _ ?_
        clear hK K
        go_simp
        refine wpAny_ready (rs := [12]) (by kernel_rfl) (by simp) ?_
        refine AllReady.cons rfl (fun K hK => ?_) AllReady.nil
        go_simp
        refine hK _ _ ?_
        clear hK K
        go_simp
        refine wpAny_done (by kernel_rfl) ?_ _
        rw [← HW4.out, HRR.out]
        exact ⟨rfl, by kernel_rfl, rfl⟩
    · go_simp
      refine hK _ _ ?_
      clear hK K
      go_simp
      refine wpAny_ready (rs := [3, 7]) (by kernel_rfl) (by simp) ?_
      refine AllReady.cons rfl (fun K hK => ?_) (AllReady.cons rfl (fun K hK => ?_) AllReady.nil)
      · go_simp
        refine hK _ _ ?_
        clear hK K
        go_simp
        refine wpAny_ready (rs := [7]) (by kernel_rfl) (by simp) ?_
        refine AllReady.cons rfl (fun K hK => ?_) AllReady.nil
        go_simp
        refine hK _ _ ?_
        clear hK K
        go_simp
        refine wpAny_take (i := 8) (v := .int .i64 0) rfl (by kernel_rfl) (by kernel_rfl) (by kernel_rfl) (fun _ _ _ h => nomatch h.1) (Or.inl ⟨by rfl, ?_⟩) ?_
        · intro w
          go_simp
          all_goals first | done | (intro h; exfalso; omega) | omega
        go_simp
        refine wpAny_take (i := 9) (v := .int .i64 (n : Int)) rfl (by kernel_rfl) (by kernel_rfl) (by kernel_rfl) (fun _ _ _ h => nomatch h.1) (Or.inl ⟨by rfl, ?_⟩) ?_
        · intro w
          go_simp
          all_goals first | done | (intro h; exfalso; omega) | omega
        go_simp
        refine wpAny_ready (rs := [10]) (by kernel_rfl) (by simp) ?_
        refine AllReady.cons rfl (fun K hK => ?_) AllReady.nil
        refine wp_append_run _ _ _ 24 2 rfl _ _ rfl rfl _ _ hrun.out ?_
        refine hK _ _ ?_
        clear hK K
        go_simp
        refine wpAny_ready (rs := [11]) (by kernel_rfl) (by simp) ?_
        refine AllReady.cons rfl (fun K hK => ?_) AllReady.nil
        go_simp
        refine hK _ _ ?_
        clear hK K
        go_simp
        refine wpAny_ready (rs := [12]) (by kernel_rfl) (by simp) ?_
        refine AllReady.cons rfl (fun K hK => ?_) AllReady.nil
        go_simp
        refine hK _ _ ?_
        clear hK K
        go_simp
        refine wpAny_done (by kernel_rfl) ?_ _
        rw [← HW4.out, HRR.out]
        exact ⟨rfl, by kernel_rfl, rfl⟩
      · go_simp
        refine hK _ _ ?_
        clear hK K
        go_simp
        refine wpAny_take (i := 8) (v := .int .i64 0) rfl (by kernel_rfl) (by kernel_rfl) (by kernel_rfl) (fun _ _ _ h => nomatch h.1) (Or.inl ⟨by rfl, ?_⟩) ?_
        · intro w
          go_simp
          all_goals first | done | (intro h; exfalso; omega) | omega
        go_simp
        refine wpAny_take (i := 9) (v := .int .i64 (n : Int)) rfl (by kernel_rfl) (by kernel_rfl) (by kernel_rfl) (fun _ _ _ h => nomatch h.1) (Or.inl ⟨by rfl, ?_⟩) ?_
        · intro w
          go_simp
          all_goals first | done | (intro h; exfalso; omega) | omega
        go_simp
        refine wpAny_ready (rs := [3]) (by kernel_rfl) (by simp) ?_
        refine AllReady.cons rfl (fun K hK => ?_) AllReady.nil
        go_simp
        refine hK _ _ ?_
        clear hK K
        go_simp
        refine wpAny_ready (rs := [10]) (by kernel_rfl) (by simp) ?_
        refine AllReady.cons rfl (fun K hK => ?_) AllReady.nil
        refine wp_append_run _ _ _ 24 2 rfl _ _ rfl rfl _ _ hrun.out ?_
        refine hK _ _ ?_
        clear hK K
        go_simp
        refine wpAny_ready (rs := [11]) (by kernel_rfl) (by simp) ?_
        refine AllReady.cons rfl (fun K hK => ?_) AllReady.nil
        go_simp
        refine hK _ _ ?_
        clear hK K
        go_simp
        refine wpAny_ready (rs := [12]) (by kernel_rfl) (by simp) ?_
        refine AllReady.cons rfl (fun K hK => ?_) AllReady.nil
        go_simp
        refine hK _ _ ?_
        clear hK K
        go_simp
        refine wpAny_done (by kernel_rfl) ?_ _
        rw [← HW4.out, HRR.out]
        exact ⟨rfl, by kernel_rfl, rfl⟩
    · go_simp
      refine hK _ _ ?_
      clear hK K
      go_simp
      refine wpAny_take (i := 8) (v := .int .i64 0) rfl (by kernel_rfl) (by kernel_rfl) (by kernel_rfl) (fun _ _ _ h => nomatch h.1) (Or.inl ⟨by rfl, ?_⟩) ?_
      · intro w
        go_simp
        all_goals first | done | (intro h; exfalso; omega) | omega
      go_simp
      refine wpAny_ready (rs := [3, 4]) (by kernel_rfl) (by simp) ?_
      refine AllReady.cons rfl (fun K hK => ?_) (AllReady.cons rfl (fun K hK => ?_) AllReady.nil)
      · go_simp
        refine hK _ _ ?_
        clear hK K
        go_simp
        refine wpAny_ready (rs := [4]) (by kernel_rfl) (by simp) ?_
        refine AllReady.cons rfl (fun K hK => ?_) AllReady.nil
        go_simp
        refine hK _ _ ?_
        clear hK K
        go_simp
        refine wpAny_take (i := 9) (v := .int .i64 (n : Int)) rfl (by kernel_rfl) (by kernel_rfl) (by kernel_rfl) (fun _ _ _ h => nomatch h.1) (Or.inl ⟨by rfl, ?_⟩) ?_
        · intro w
          go_simp
          all_goals first | done | (intro h; exfalso; omega) | omega
        go_simp
        refine wpAny_ready (rs := [10]) (by kernel_rfl) (by simp) ?_
        refine AllReady.cons rfl (fun K hK => ?_) AllReady.nil
        refine wp_append_run _ _ _ 24 2 rfl _ _ rfl rfl _ _ hrun.out ?_
        refine hK _ _ ?_
        clear hK K
        go_simp
        refine wpAny_ready (rs := [11]) (by kernel_rfl) (by simp) ?_
        refine AllReady.cons rfl (fun K hK => ?_) AllReady.nil
        go_simp
        refine hK _ _ ?_
        clear hK K
        go_simp
        refine wpAny_ready (rs := [12]) (by kernel_rfl) (by simp) ?_
        refine AllReady.cons rfl (fun K hK => ?_) AllReady.nil
        go_simp
        refine hK _ _ ?_
        clear hK K
        go_simp
        refine wpAny_done (by kernel_rfl) ?_ _
        rw [← HW4.out, HRR.out]
        exact ⟨rfl, by kernel_rfl, rfl⟩
      · go_simp
        refine hK _ _ ?_
        clear hK K
        go_simp
        refine wpAny_take (i := 9) (v := .int .i64 (n : Int)) rfl (by kernel_rfl) (by kernel_rfl) (by kernel_rfl) (fun _ _ _ h => nomatch h.1) (Or.inl ⟨by rfl, ?_⟩) ?_
        · intro w
          go_simp
          all_goals first | done | (intro h; exfalso; omega) | omega
        go_simp
        refine wpAny_ready (rs := [3]) (by kernel_rfl) (by simp) ?_
        refine AllReady.cons rfl (fun K hK => ?_) AllReady.nil
        go_simp
        refine hK _ _ ?_
        clear hK K
        go_simp
        refine wpAny_ready (rs := [10]) (by kernel_rfl) (by simp) ?_
        refine AllReady.cons rfl (fun K hK => ?_) AllReady.nil
        refine wp_append_run _ _ _ 24 2 rfl _ _ rfl rfl _ _ hrun.out ?_
        refine hK _ _ ?_
        clear hK K
        go_simp
        refine wpAny_ready (rs := [11]) (by kernel_rfl) (by simp) ?_
        refine AllReady.cons rfl (fun K hK => ?_) AllReady.nil
        go_simp
        refine hK _ _ ?_
        clear hK K
        go_simp
        refine wpAny_ready (rs := [12]) (by kernel_rfl) (by simp) ?_
        refine AllReady.cons rfl (fun K hK => ?_) AllReady.nil
        go_simp
        refine hK _ _ ?_
        clear hK K
        go_simp
        refine wpAny_done (by kernel_rfl) ?_ _
        rw [← HW4.out, HRR.out]
        exact ⟨rfl, by kernel_rfl, rfl⟩
  intro a' w' hr
  rw [HRR.out] at hr
  obtain ⟨rfl, rfl⟩ := hr
  clear c1 cL1 c2 z2 hrun HW4 H21 HRR Hj Hblk Hdr HbW HW
  go_simp
  have c9 := hcW4.out
  go_wp2
  go_loopw [36] (fun iv wr => ∃ i : Nat, i ≤ n ∧ iv = .int .i64 i ∧ Hid (Dec g r ((U.drop i).flatMap (fun u => be 1 u.size ++ u.data.toList) ++ G) wr) ∧ Hid (wr.heap[b]? = some (.cells (cs.setIfInBounds jo (.slice o n c)) T (0, 0))) ∧ Hid (wr.cell? ⟨b, jo, none⟩ = some (.slice o n c)) ∧ Hid (D2 g b w wr) ∧ Hid (0 < n → ∃ q zs, o = some ⟨q, 0, none⟩ ∧ w.heap.size ≤ q ∧ q ≠ g ∧ q ≠ r ∧ q ≠ b ∧ wr.heap[q]? = some (.cells zs 9 (0, 0)) ∧ ∀ j, i ≤ j → j < n → zs[j]? = some (.string ⟨#[]⟩))) (fun iv _ => n - (Lib.intOf iv).toNat)
  case atStart =>
    refine ⟨0, Nat.zero_le _, rfl, hd4, hb4, hcW4, h24, mkHid ?_⟩
    intro hn0
    obtain ⟨q, zs, e1, e2, e3, e4, e5, e6, e7⟩ := hrow.out hn0
    exact ⟨q, zs, e1, e2, e3, e4, e5, e6, fun j _ hj => e7 j hj⟩
  case round =>
    clear hd4 hb4 h24 hrow hcW4 c9
    obtain ⟨i, hi, rfl, HD, HB, HC, H2, HZ⟩ := hrel
    have cW := HC.out
    by_cases hlt : i < n
    · have hlti : (i : Int) < (n : Int) := by omega
      obtain ⟨q, zs, rfl, e2, e3, e4, e5, e6, e7⟩ := HZ.out (by omega)
      have hadd := add_off q i
      have hiU : i < U.length := by rw [← HnU.out]; exact hlt
      have hub := HUb.out U[i] (List.getElem_mem hiU)
      have hdc : (U.drop i).flatMap (fun u => be 1 u.size ++ u.data.toList) ++ G = (be 1 U[i].size ++ U[i].data.toList) ++ ((U.drop (i + 1)).flatMap (fun u => be 1 u.size ++ u.data.toList) ++ G) := by rw [List.drop_eq_getElem_cons hiU, List.flatMap_cons, List.append_assoc]
      have hd := HD.out
      have hln : ((U.drop i).flatMap (fun u => be 1 u.size ++ u.data.toList) ++ G).length ≤ 1000000 := by
        have h9 : U.flatMap (fun u => be 1 u.size ++ u.data.toList) = (U.take i).flatMap (fun u => be 1 u.size ++ u.data.toList) ++ (U.drop i).flatMap (fun u => be 1 u.size ++ u.data.toList) := by rw [← List.flatMap_append, List.take_append_drop]
        rw [h9, List.append_assoc, List.length_append] at hGl
        omega
      rw [hdc] at hd hln
      clear hdc
      obtain ⟨Fr9, hFr⟩ : ∃ X, X = (U.drop (i + 1)).flatMap (fun u => be 1 u.size ++ u.data.toList) ++ G := ⟨_, rfl⟩
      rw [← hFr] at hd hln
      have HFr := mkHid hFr
      clear hFr
      generalize U[i] = x at *
      have hl4 : (be 1 x.size).length = 1 := be_len _ _
      have hx9 : x.data.toList.length = x.size := by simp
      have ht4 : ((be 1 x.size ++ x.data.toList) ++ Fr9).take 1 = be 1 x.size := by rw [List.append_assoc, List.take_append_of_le_length (by omega), List.take_of_length_le (by omega)]
      have hr4 : Fr9 = ((be 1 x.size ++ x.data.toList) ++ Fr9).drop (1 + x.size) := by
        have h8 : (be 1 x.size ++ x.data.toList).length = 1 + x.size := by rw [List.length_append, hl4, hx9]
        rw [← h8, List.drop_left]
      have cX := mkHid (decName g r q i x.size ((be 1 x.size ++ x.data.toList) ++ Fr9) zs _ 9 wr hd e3 e4 e6 ⟨#[]⟩ _ (e7 i (Nat.le_refl _) hlt) rfl rfl (by rw [ht4, num_be]; omega) (by rw [List.length_append, List.length_append]; omega) hln Fr9 hr4)
      clear ht4 hr4 hl4 hx9
      have hql : q < wr.heap.size := lt_of_blk e6
      clear hd HZ HD
      go_wp2_with fail
      refine cX.out.mono ?_
      rintro e w6 ⟨rfl, hR6⟩
      obtain ⟨hd6, hq6, h26⟩ := hR6
      have hbl9 : b < wr.heap.size := lt_of_blk HB.out
      have HB6 : Hid (w6.heap[b]? = some (.cells (cs.setIfInBounds jo (.slice (some ⟨q, 0, none⟩) n c)) T (0, 0))) := mkHid ((h26.keep b hbl9 hb (by omega)).trans HB.out)
      have HC6 : Hid (w6.cell? ⟨b, jo, none⟩ = some (.slice (some ⟨q, 0, none⟩) n c)) := mkHid ((World.cell?_of_block (a := ⟨b, jo, none⟩) (h26.keep b hbl9 hb (by omega))).trans HC.out)
      have H26 := mkHid (H2.out.far h26 e2)
      rw [HFr.out] at hd6
      have HD6 := mkHid hd6
      have HZ6 : Hid (0 < n → ∃ q' zs', (some ⟨q, 0, none⟩ : Option Addr) = some ⟨q', 0, none⟩ ∧ w.heap.size ≤ q' ∧ q' ≠ g ∧ q' ≠ r ∧ q' ≠ b ∧ w6.heap[q']? = some (.cells zs' 9 (0, 0)) ∧ ∀ j, i + 1 ≤ j → j < n → zs'[j]? = some (.string ⟨#[]⟩)) := mkHid (fun _ => ⟨q, _, rfl, e2, e3, e4, e5, hq6, fun j h1 h2 => by
        rw [Array.getElem?_setIfInBounds_ne (by omega)]
        exact e7 j (by omega) h2⟩)
      clear hd6 hq6 h26 cX
      go_wp2
      go_roundw
      case rel => exact ⟨i + 1, by omega, by go_num, HD6, HB6, HC6, H26, HZ6⟩
      case measure => simp [Lib.intOf]; omega
    · skip
      have hlti : ¬ (i : Int) < (n : Int) := by omega
      have HF : Hid (DecL g r b jo U.length G cs T w wr) := mkHid (by
        have hd := HD.out
        rw [List.drop_of_length_le (by rw [← HnU.out]; omega)] at hd
        rw [← HnU.out]
        exact ⟨o, c, hd, HB.out, H2.out⟩)
      clear HD HB H2 HZ HC
      go_wp2
      exact bodyPost_end (v := .tuple #[]) (results_none Tryd.results26 _ _ _) rfl ⟨rfl, HF.out⟩
end Go.Proofs.YtillilllceeonaaDoor
