import Derived.Test.YtdlacoakimahkaaDrawText
import Derived.Test.YtdlacoakimahkaaWildsPlain
namespace Go.Proofs.Ytdlacoakimahkaa
open Go.RowKit Go.Lib
set_option maxHeartbeats 2000000 in
/-- A draw below a small number, told by its value. -/
theorem srcNV (g : Nat) (o : Option Addr) (c : List UInt8) (cp a z : Nat) (most : Nat) (w : World) (h : Src w g o c.length cp a z) (hc : Code g w o c) (ha : a ≤ 1000000000000) (hl : c.length ≤ 1048576) (hm : most ≤ 200) (h1 : 1 ≤ most) :
    Calls Try.prog 10 #[.pointer (some ⟨g, 0, none⟩), .int .i64 (most : Int)] w fun e w' => e = .returned (.int .i64 (Wi.nv c a most)) ∧ Src w' g o c.length cp (a + 1) z ∧ w.grownBy w' (some g) := by
  have c0 := h.c0
  have c1 := h.c1
  have f1 := h.f1
  have Hs : Hid (Src (w.setCell ⟨g, 1, none⟩ (.int .i64 ((a : Int) + 1))) g o c.length cp (a + 1) z) := h.set1 _ _ (by omega)
  have hg := gr_set w g 1 (.int .i64 ((a : Int) + 1))
  have Hg : Hid (w.grownBy (w.setCell ⟨g, 1, none⟩ (.int .i64 ((a : Int) + 1))) (some g)) := hg
  have HC : Hid (Code g (w.setCell ⟨g, 1, none⟩ (.int .i64 ((a : Int) + 1))) o c) := hc.grown hg (Nat.le_refl _)
  clear h hc hg
  by_cases hz : c.length = 0
  · have hz2 : ((c.length : Int) == 0) = true := by rw [hz]; rfl
    have hv : Hid (((Wi.nv c a most : Nat) : Int) = (a : Int) * 7 % (most : Int)) := by
      unfold Wi.nv
      rw [if_pos hz]
      exact rfl
    go_enter Try.func10, Try.ntmps10
    go_wp2
    go_ret
    refine ⟨?_, Hs.out, Hg.out⟩
    rw [hv.out]
    rfl
  · have hz2 : ((c.length : Int) == 0) = false := beq_eq_false_iff_ne.2 (by omega)
    obtain ⟨r, hr⟩ : ∃ r, a % c.length = r := ⟨_, rfl⟩
    obtain ⟨q, hq⟩ : ∃ q, a / c.length = q := ⟨_, rfl⟩
    have hrl : r < c.length := by rw [← hr]; exact Nat.mod_lt _ (by omega)
    have hql : q ≤ a := by rw [← hq]; exact Nat.div_le_self _ _
    have hrI : (a : Int) % (c.length : Int) = (r : Int) := by rw [← hr]; rfl
    have hqI : (a : Int) / (c.length : Int) = (q : Int) := by rw [← hq]; rfl
    obtain ⟨ad, rfl, had, k1⟩ := HC.out r hrl
    have b1 : c[r].toNat < 256 := UInt8.toNat_lt _
    have hv : Hid (((Wi.nv c a most : Nat) : Int) = ((c[r].toNat : Int) + (q : Int) * 37) % (most : Int)) := by
      unfold Wi.nv
      rw [if_neg hz, hr, hq, List.getD_eq_getElem?_getD, List.getElem?_eq_getElem hrl]
      exact rfl
    generalize c[r].toNat = x1 at *
    have hne : ¬ (c.length : Int) = 0 := by omega
    have hbig : ¬ (200 : Int) < (most : Int) := by omega
    clear hr hq HC hz
    go_enter Try.func10, Try.ntmps10
    go_wp2
    go_quiet (fail)
    obtain ⟨V, hV⟩ : ∃ V, V = (w.setCell ⟨g, 1, none⟩ (.int .i64 ((a : Int) + 1))).drewN nq := ⟨_, rfl⟩
    have HsV : Hid (Src V g (some ad) c.length cp (a + 1) z) := by rw [hV]; exact ⟨Hs.out.blk⟩
    have HgV : Hid (w.grownBy V (some g)) := by rw [hV]; exact gr_trans Hg.out (gr_below (below_drewN (Below.refl _ _) _))
    rw [← hV]
    clear hV k1 c0 c1 f1 Hs Hg
    go_wp2
    go_ret
    refine ⟨?_, HsV.out, HgV.out⟩
    rw [hv.out]
    rfl
theorem Code.drewC {B : Nat} {w : World} {o : Option Addr} {c : List UInt8} (h : Code B w o c) : Code B w.drew o c := h
set_option maxHeartbeats 2000000 in
set_option maxRecDepth 10000 in
theorem srcSpoil (g : Nat) (o : Option Addr) (c : List UInt8) (cp a z : Nat) (t : ByteArray) (w : World) (h : Src w g o c.length cp a z) (hc : Code g w o c) (ha : a ≤ 800000000000) (hl : c.length ≤ 1048576) (ht : t.size ≤ 1000000000) :
    Calls Try.prog 12 #[.pointer (some ⟨g, 0, none⟩), .string t] w fun e w' => ∃ (q : ByteArray) (a' : Nat), e = .returned (.string q) ∧ q.size ≤ t.size + 9 ∧ a' ≤ a + 20 ∧ Src w' g o c.length cp a' z ∧ w.grownBy w' (some g) := by
  have HC : Hid (Code g w o c) := hc
  have Hs0 : Hid (Src w g o c.length cp a z) := h
  clear hc h
  by_cases h0 : t.size = 0
  · have h0' : ((t.size : Int) == 0) = true := by rw [h0]; rfl
    go_enter Try.func12, Try.ntmps12
    go_wp2_with fail
    refine (srcN g o c cp a z 3 _ Hs0.out HC.out (by omega) hl (by omega) (by omega)).mono ?_
    rintro e w1 ⟨v, rfl, hv, hs1, hg1⟩
    have hb := srcBytes g o c cp (a + 1) z (1 + v) w1 hs1 (HC.out.grown hg1 (Nat.le_refl _)) (by omega) hl (by omega)
    rw [show ((1 + v : Nat) : Int) = 1 + (v : Int) by omega] at hb
    have Hg1 := mkH hg1
    clear hs1 hg1
    go_wp2_with fail
    refine hb.mono ?_
    rintro e w2 ⟨u, a2, rfl, hu, ha2, hs2, hg2⟩
    have Hs2 := mkH hs2
    have Hg2 := mkH (gr_trans Hg1.out hg2)
    clear hs2 hg2 hb
    go_wp2
    go_ret
    exact ⟨_, a2, rfl, by omega, by omega, Hs2.out, Hg2.out⟩
  · have h0' : ((t.size : Int) == 0) = false := beq_eq_false_iff_ne.2 (by omega)
    go_enter Try.func12, Try.ntmps12
    go_wp2_with fail
    refine (srcN g o c cp a z (t.size : Int) _ Hs0.out HC.out (by omega) hl (by omega) (by omega)).mono ?_
    rintro e w1 ⟨k, rfl, hk, hs1, hg1⟩
    have Hs1 := mkH hs1
    have Hg1 := mkH hg1
    clear hs1 hg1
    go_wp2_with fail
    refine (srcN g o c cp (a + 1) z 4 _ Hs1.out (HC.out.grown Hg1.out (Nat.le_refl _)) (by omega) hl (by omega) (by omega)).mono ?_
    rintro e w2 ⟨v2, rfl, hv2, hs2, hg2⟩
    have Hs2 := mkH hs2
    have Hg2 := mkH (gr_trans Hg1.out hg2)
    clear hs2 hg2 Hs1
    have hkt : k < t.size := by omega
    have hx1 : (t.extract 0 k).size = k := by rw [ByteArray.size_extract]; omega
    by_cases he : t.size < k + v2
    · have hx2 : (t.extract t.size t.size).size = 0 := by rw [ByteArray.size_extract]; omega
      go_wp2
      refine wp_region_any (by kernel_rfl) ?_
      refine wpAny_take (i := 0) (v := .string t) rfl (by kernel_rfl) (by kernel_rfl) (by kernel_rfl) (fun _ _ _ h => h) (Or.inl ⟨by rfl, ?_⟩) ?_
      · intro w
        go_simp
        all_goals first | done | omega | (intro h; exfalso; omega)
      go_simp
      refine wpAny_take (i := 1) (v := .int .i64 k) rfl (by kernel_rfl) (by kernel_rfl) (by kernel_rfl) (fun _ _ _ h => h) (Or.inl ⟨by rfl, ?_⟩) ?_
      · intro w
        go_simp
        all_goals first | done | omega | (intro h; exfalso; omega)
      go_simp
      refine wpAny_take (i := 2) (v := .string (t.extract 0 k)) rfl (by kernel_rfl) (by kernel_rfl) (by kernel_rfl) (fun _ _ _ h => h) (Or.inl ⟨by rfl, ?_⟩) ?_
      · intro w
        go_simp
        all_goals first | done | omega | (intro h; exfalso; omega)
      go_simp
      refine wpAny_take (i := 3) (v := .pointer (some ⟨g, 0, none⟩)) rfl (by kernel_rfl) (by kernel_rfl) (by kernel_rfl) (fun _ _ _ h => h) (Or.inl ⟨by rfl, ?_⟩) ?_
      · intro w
        go_simp
        all_goals first | done | omega | (intro h; exfalso; omega)
      go_simp
      refine wpAny_take (i := 4) (v := .pointer (some ⟨g, 0, none⟩)) rfl (by kernel_rfl) (by kernel_rfl) (by kernel_rfl) (fun _ _ _ h => h) (Or.inl ⟨by rfl, ?_⟩) ?_
      · intro w
        go_simp
        all_goals first | done | omega | (intro h; exfalso; omega)
      go_simp
      refine wpAny_take (i := 8) (v := .string t) rfl (by kernel_rfl) (by kernel_rfl) (by kernel_rfl) (fun _ _ _ h => h) (Or.inl ⟨by rfl, ?_⟩) ?_
      · intro w
        go_simp
        all_goals first | done | omega | (intro h; exfalso; omega)
      go_simp
      refine wpAny_take (i := 9) (v := .int .i64 t.size) rfl (by kernel_rfl) (by kernel_rfl) (by kernel_rfl) (fun _ _ _ h => h) (Or.inl ⟨by rfl, ?_⟩) ?_
      · intro w
        go_simp
        all_goals first | done | omega | (intro h; exfalso; omega)
      go_simp
      refine wpAny_take (i := 10) (v := .string ByteArray.empty) rfl (by kernel_rfl) (by kernel_rfl) (by kernel_rfl) (fun _ _ _ h => h) (Or.inl ⟨by rfl, ?_⟩) ?_
      · intro w
        go_simp
        all_goals first | done | omega | (intro h; exfalso; omega)
      go_simp
      refine wpAny_ready (rs := [5]) (by kernel_rfl) (by simp) ?_
      refine AllReady.cons rfl (fun K hK => ?_) AllReady.nil
      go_simp
      go_wp2_with fail
      refine (srcN g o c cp (a + 1 + 1) z 3 w2.drew ⟨Hs2.out.blk⟩ ((HC.out.grown Hg2.out (Nat.le_refl _)).drewC) (by omega) hl (by omega) (by omega)).mono ?_
      rintro e3 w3 ⟨v3, rfl, hv3, hs3, hg3⟩
      have Hs3 := mkH hs3
      have Hg3 := mkH (gr_trans (gr_trans Hg2.out (gr_below ((Below.refl w2.heap.size w2).drew))) hg3)
      clear hs3 hg3
      show K _ _
      refine hK _ _ ?_
      clear hK K
      go_simp
      refine wpAny_ready (rs := [6]) (by kernel_rfl) (by simp) ?_
      refine AllReady.cons rfl (fun K hK => ?_) AllReady.nil
      go_simp
      go_wp2_with fail
      refine (srcBytes g o c cp (a + 1 + 1 + 1) z v3 _ Hs3.out (HC.out.grown Hg3.out (Nat.le_refl _)) (by omega) hl (by omega)).mono ?_
      rintro e4 w4 ⟨u, a4, rfl, hu, ha4, hs4, hg4⟩
      have Hs4 := mkH hs4
      have Hg4 := mkH (gr_trans Hg3.out hg4)
      clear hs4 hg4
      show K _ _
      refine hK _ _ ?_
      clear hK K
      go_simp
      refine wpAny_take (i := 7) (v := .string (t.extract 0 k ++ u)) rfl (by kernel_rfl) (by kernel_rfl) (by kernel_rfl) (fun _ _ _ h => h) (Or.inl ⟨by rfl, ?_⟩) ?_
      · intro w
        go_simp
        all_goals first | done | omega | (intro h; exfalso; omega)
      go_simp
      refine wpAny_take (i := 11) (v := .string (t.extract 0 k ++ u)) rfl (by kernel_rfl) (by kernel_rfl) (by kernel_rfl) (fun _ _ _ h => h) (Or.inl ⟨by rfl, ?_⟩) ?_
      · intro w
        go_simp
        all_goals first | done | omega | (intro h; exfalso; omega)
      go_simp
      refine wpAny_take (i := 12) (v := .string (t.extract 0 k ++ u)) rfl (by kernel_rfl) (by kernel_rfl) (by kernel_rfl) (fun _ _ _ h => h) (Or.inl ⟨by rfl, ?_⟩) ?_
      · intro w
        go_simp
        all_goals first | done | omega | (intro h; exfalso; omega)
      go_simp
      refine wpAny_done (by kernel_rfl) ?_ _
      have hsz : (t.extract 0 k ++ u).size ≤ t.size + 9 := by
        simp only [ByteArray.size_append, ByteArray.size_extract]
        omega
      go_wp2
      go_ret
      exact ⟨_, a4, rfl, hsz, by omega, Hs4.out, Hg4.out⟩
    · obtain ⟨e, he2⟩ : ∃ e, e = k + v2 := ⟨_, rfl⟩
      have heI : (k : Int) + (v2 : Int) = (e : Int) := by omega
      have hle : e ≤ t.size := by omega
      have hx2 : (t.extract e t.size).size = t.size - e := by rw [ByteArray.size_extract]; omega
      clear he2
      go_wp2
      refine wp_region_any (by kernel_rfl) ?_
      refine wpAny_take (i := 0) (v := .string t) rfl (by kernel_rfl) (by kernel_rfl) (by kernel_rfl) (fun _ _ _ h => h) (Or.inl ⟨by rfl, ?_⟩) ?_
      · intro w
        go_simp
        all_goals first | done | omega | (intro h; exfalso; omega)
      go_simp
      refine wpAny_take (i := 1) (v := .int .i64 k) rfl (by kernel_rfl) (by kernel_rfl) (by kernel_rfl) (fun _ _ _ h => h) (Or.inl ⟨by rfl, ?_⟩) ?_
      · intro w
        go_simp
        all_goals first | done | omega | (intro h; exfalso; omega)
      go_simp
      refine wpAny_take (i := 2) (v := .string (t.extract 0 k)) rfl (by kernel_rfl) (by kernel_rfl) (by kernel_rfl) (fun _ _ _ h => h) (Or.inl ⟨by rfl, ?_⟩) ?_
      · intro w
        go_simp
        all_goals first | done | omega | (intro h; exfalso; omega)
      go_simp
      refine wpAny_take (i := 3) (v := .pointer (some ⟨g, 0, none⟩)) rfl (by kernel_rfl) (by kernel_rfl) (by kernel_rfl) (fun _ _ _ h => h) (Or.inl ⟨by rfl, ?_⟩) ?_
      · intro w
        go_simp
        all_goals first | done | omega | (intro h; exfalso; omega)
      go_simp
      refine wpAny_take (i := 4) (v := .pointer (some ⟨g, 0, none⟩)) rfl (by kernel_rfl) (by kernel_rfl) (by kernel_rfl) (fun _ _ _ h => h) (Or.inl ⟨by rfl, ?_⟩) ?_
      · intro w
        go_simp
        all_goals first | done | omega | (intro h; exfalso; omega)
      go_simp
      refine wpAny_take (i := 8) (v := .string t) rfl (by kernel_rfl) (by kernel_rfl) (by kernel_rfl) (fun _ _ _ h => h) (Or.inl ⟨by rfl, ?_⟩) ?_
      · intro w
        go_simp
        all_goals first | done | omega | (intro h; exfalso; omega)
      go_simp
      refine wpAny_take (i := 9) (v := .int .i64 e) rfl (by kernel_rfl) (by kernel_rfl) (by kernel_rfl) (fun _ _ _ h => h) (Or.inl ⟨by rfl, ?_⟩) ?_
      · intro w
        go_simp
        all_goals first | done | omega | (intro h; exfalso; omega)
      go_simp
      refine wpAny_take (i := 10) (v := .string (t.extract e t.size)) rfl (by kernel_rfl) (by kernel_rfl) (by kernel_rfl) (fun _ _ _ h => h) (Or.inl ⟨by rfl, ?_⟩) ?_
      · intro w
        go_simp
        all_goals first | done | omega | (intro h; exfalso; omega)
      go_simp
      refine wpAny_ready (rs := [5]) (by kernel_rfl) (by simp) ?_
      refine AllReady.cons rfl (fun K hK => ?_) AllReady.nil
      go_simp
      go_wp2_with fail
      refine (srcN g o c cp (a + 1 + 1) z 3 w2.drew ⟨Hs2.out.blk⟩ ((HC.out.grown Hg2.out (Nat.le_refl _)).drewC) (by omega) hl (by omega) (by omega)).mono ?_
      rintro e3 w3 ⟨v3, rfl, hv3, hs3, hg3⟩
      have Hs3 := mkH hs3
      have Hg3 := mkH (gr_trans (gr_trans Hg2.out (gr_below ((Below.refl w2.heap.size w2).drew))) hg3)
      clear hs3 hg3
      show K _ _
      refine hK _ _ ?_
      clear hK K
      go_simp
      refine wpAny_ready (rs := [6]) (by kernel_rfl) (by simp) ?_
      refine AllReady.cons rfl (fun K hK => ?_) AllReady.nil
      go_simp
      go_wp2_with fail
      refine (srcBytes g o c cp (a + 1 + 1 + 1) z v3 _ Hs3.out (HC.out.grown Hg3.out (Nat.le_refl _)) (by omega) hl (by omega)).mono ?_
      rintro e4 w4 ⟨u, a4, rfl, hu, ha4, hs4, hg4⟩
      have Hs4 := mkH hs4
      have Hg4 := mkH (gr_trans Hg3.out hg4)
      clear hs4 hg4
      show K _ _
      refine hK _ _ ?_
      clear hK K
      go_simp
      refine wpAny_take (i := 7) (v := .string (t.extract 0 k ++ u)) rfl (by kernel_rfl) (by kernel_rfl) (by kernel_rfl) (fun _ _ _ h => h) (Or.inl ⟨by rfl, ?_⟩) ?_
      · intro w
        go_simp
        all_goals first | done | omega | (intro h; exfalso; omega)
      go_simp
      refine wpAny_take (i := 11) (v := .string (t.extract 0 k ++ u ++ t.extract e t.size)) rfl (by kernel_rfl) (by kernel_rfl) (by kernel_rfl) (fun _ _ _ h => h) (Or.inl ⟨by rfl, ?_⟩) ?_
      · intro w
        go_simp
        all_goals first | done | omega | (intro h; exfalso; omega)
      go_simp
      refine wpAny_take (i := 12) (v := .string (t.extract 0 k ++ u ++ t.extract e t.size)) rfl (by kernel_rfl) (by kernel_rfl) (by kernel_rfl) (fun _ _ _ h => h) (Or.inl ⟨by rfl, ?_⟩) ?_
      · intro w
        go_simp
        all_goals first | done | omega | (intro h; exfalso; omega)
      go_simp
      refine wpAny_done (by kernel_rfl) ?_ _
      have hsz : (t.extract 0 k ++ u ++ t.extract e t.size).size ≤ t.size + 9 := by
        simp only [ByteArray.size_append, ByteArray.size_extract]
        omega
      go_wp2
      go_ret
      exact ⟨_, a4, rfl, hsz, by omega, Hs4.out, Hg4.out⟩
end Go.Proofs.Ytdlacoakimahkaa
