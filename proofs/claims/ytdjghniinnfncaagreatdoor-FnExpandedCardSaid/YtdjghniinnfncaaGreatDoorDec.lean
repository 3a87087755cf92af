
/- A source of draws: a draw by its value; a text that is spoiled. -/

/- A number in digits, the specification's side. -/
import Derived.Test.YtdjghniinnfncaaGreatDoorAnyVals
import Derived.Test.YtdjghniinnfncaaGreatDoorWildsPlain
import Derived.Test.YtdjghniinnfncaaGreatDoorGenBase
import Derived.Lib.ItoaNum
import Derived.Deep.QuietTactic
import Derived.BigQuiet
import Derived.Deep.RegionWith
import Derived.Laws.OwnMore
import Derived.WalkSmall
namespace Go.Proofs.YtdjghniinnfncaaGreatDoor
open Go.RowKit Go.Lib
set_option maxRecDepth 20000 in
set_option maxHeartbeats 2000000 in
/-- A draw below a small number, told by its value. -/
theorem srcNV (g : Nat) (o : Option Addr) (c : List UInt8) (cp a z : Nat) (most : Nat) (w : World) (h : Src w g o c.length cp a z) (hc : Code g w o c) (ha : a ≤ 1000000) (hl : c.length ≤ 1048576) (hm : most ≤ 200) (h1 : 1 ≤ most) :
    Calls Tryz.prog 14 #[.pointer (some ⟨g, 0, none⟩), .int .i64 (most : Int)] w fun e w' => e = .returned (.int .i64 (Wi.nv c a most)) ∧ Src w' g o c.length cp (a + 1) z ∧ w.grownBy w' (some g) := by
  have c0 := h.c0
  have c1 := h.c1
  have f1 := h.f1
  have Hs : Hid (Src (w.setCell ⟨g, 1, none⟩ (.int .i64 ((a : Int) + 1))) g o c.length cp (a + 1) z) := h.set1 _ _ (by omega)
  have hg := gr_set w g 1 (.int .i64 ((a : Int) + 1))
  have Hg : Hid (w.grownBy (w.setCell ⟨g, 1, none⟩ (.int .i64 ((a : Int) + 1))) (some g)) := hg
  have HC : Hid (Code g (w.setCell ⟨g, 1, none⟩ (.int .i64 ((a : Int) + 1))) o c) := hc.grown hg (Nat.le_refl _)
  clear h hc hg
  by_cases hz : c.length = 0
  · have hz2 : ((c.length : Int) == 0) = true := by rw [hz]; rfl
    have hv : Hid (((Wi.nv c a most : Nat) : Int) = (a : Int) * 7 % (most : Int)) := by
      unfold Wi.nv
      rw [if_pos hz]
      exact rfl
    go_enter Tryz.func14, Tryz.ntmps14
    go_wp2
    go_ret
    refine ⟨?_, Hs.out, Hg.out⟩
    rw [hv.out]
    rfl
  · have hz2 : ((c.length : Int) == 0) = false := beq_eq_false_iff_ne.2 (by omega)
    obtain ⟨r, hr⟩ : ∃ r, a % c.length = r := ⟨_, rfl⟩
    obtain ⟨q, hq⟩ : ∃ q, a / c.length = q := ⟨_, rfl⟩
    have hrl : r < c.length := by rw [← hr]; exact Nat.mod_lt _ (by omega)
    have hql : q ≤ a := by rw [← hq]; exact Nat.div_le_self _ _
    have hrI : (a : Int) % (c.length : Int) = (r : Int) := by rw [← hr]; rfl
    have hqI : (a : Int) / (c.length : Int) = (q : Int) := by rw [← hq]; rfl
    obtain ⟨ad, rfl, had, k1⟩ := HC.out r hrl
    have b1 : c[r].toNat < 256 := UInt8.toNat_lt _
    have hv : Hid (((Wi.nv c a most : Nat) : Int) = ((c[r].toNat : Int) + (q : Int) * 37) % (most : Int)) := by
      unfold Wi.nv
      rw [if_neg hz, hr, hq, List.getD_eq_getElem?_getD, List.getElem?_eq_getElem hrl]
      exact rfl
    generalize c[r].toNat = x1 at *
    have hne : ¬ (c.length : Int) = 0 := by omega
    have hbig : ¬ (200 : Int) < (most : Int) := by omega
    clear hr hq HC hz
    go_enter Tryz.func14, Tryz.ntmps14
    go_wp2
    go_quiet (fail)
    obtain ⟨V, hV⟩ : ∃ V, V = (w.setCell ⟨g, 1, none⟩ (.int .i64 ((a : Int) + 1))).drewN nq := ⟨_, rfl⟩
    have HsV : Hid (Src V g (some ad) c.length cp (a + 1) z) := by rw [hV]; exact ⟨Hs.out.blk⟩
    have HgV : Hid (w.grownBy V (some g)) := by rw [hV]; exact gr_trans Hg.out (gr_below (below_drewN (Below.refl _ _) _))
    rw [← hV]
    clear hV k1 c0 c1 f1 Hs Hg
    go_wp2
    go_ret
    refine ⟨?_, HsV.out, HgV.out⟩
    rw [hv.out]
    rfl
set_option maxRecDepth 20000 in
theorem Code.drewC {B : Nat} {w : World} {o : Option Addr} {c : List UInt8} (h : Code B w o c) : Code B w.drew o c := h
set_option maxHeartbeats 2000000 in
set_option maxRecDepth 10000 in
theorem srcSpoil (g : Nat) (o : Option Addr) (c : List UInt8) (cp a z : Nat) (t : ByteArray) (w : World) (h : Src w g o c.length cp a z) (hc : Code g w o c) (ha : a ≤ 800000) (hl : c.length ≤ 1048576) (ht : t.size ≤ 1000000000) :
    Calls Tryz.prog 16 #[.pointer (some ⟨g, 0, none⟩), .string t] w fun e w' => ∃ (q : ByteArray) (a' : Nat), e = .returned (.string q) ∧ q.size ≤ t.size + 9 ∧ a' ≤ a + 20 ∧ Src w' g o c.length cp a' z ∧ w.grownBy w' (some g) := by
  have HC : Hid (Code g w o c) := hc
  have Hs0 : Hid (Src w g o c.length cp a z) := h
  clear hc h
  by_cases h0 : t.size = 0
  · have h0' : ((t.size : Int) == 0) = true := by rw [h0]; rfl
    go_enter Tryz.func16, Tryz.ntmps16
    go_wp2_with fail
    refine (srcN g o c cp a z 3 _ Hs0.out HC.out (by omega) hl (by omega) (by omega)).mono ?_
    rintro e w1 ⟨v, rfl, hv, hs1, hg1⟩
    have hb := srcBytes g o c cp (a + 1) z (1 + v) w1 hs1 (HC.out.grown hg1 (Nat.le_refl _)) (by omega) hl (by omega)
    rw [show ((1 + v : Nat) : Int) = 1 + (v : Int) by omega] at hb
    have Hg1 := mkH hg1
    clear hs1 hg1
    go_wp2_with fail
    refine hb.mono ?_
    rintro e w2 ⟨u, a2, rfl, hu, ha2, hs2, hg2⟩
    have Hs2 := mkH hs2
    have Hg2 := mkH (gr_trans Hg1.out hg2)
    clear hs2 hg2 hb
    go_wp2
    go_ret
    exact ⟨_, a2, rfl, by omega, by omega, Hs2.out, Hg2.out⟩
  · have h0' : ((t.size : Int) == 0) = false := beq_eq_false_iff_ne.2 (by omega)
    go_enter Tryz.func16, Tryz.ntmps16
    go_wp2_with fail
    refine (srcN g o c cp a z (t.size : Int) _ Hs0.out HC.out (by omega) hl (by omega) (by omega)).mono ?_
    rintro e w1 ⟨k, rfl, hk, hs1, hg1⟩
    have Hs1 := mkH hs1
    have Hg1 := mkH hg1
    clear hs1 hg1
    go_wp2_with fail
    refine (srcN g o c cp (a + 1) z 4 _ Hs1.out (HC.out.grown Hg1.out (Nat.le_refl _)) (by omega) hl (by omega) (by omega)).mono ?_
    rintro e w2 ⟨v2, rfl, hv2, hs2, hg2⟩
    have Hs2 := mkH hs2
    have Hg2 := mkH (gr_trans Hg1.out hg2)
    clear hs2 hg2 Hs1
    have hkt : k < t.size := by omega
    have hx1 : (t.extract 0 k).size = k := by rw [ByteArray.size_extract]; omega
    by_cases he : t.size < k + v2
    · have hx2 : (t.extract t.size t.size).size = 0 := by rw [ByteArray.size_extract]; omega
      go_wp2
      refine wp_region_any (by kernel_rfl) ?_
      refine wpAny_take (i := 0) (v := .string t) rfl (by kernel_rfl) (by kernel_rfl) (by kernel_rfl) (fun _ _ _ h => h) (Or.inl ⟨by rfl, ?_⟩) ?_
      · intro w
        go_simp
        all_goals first | done | omega | (intro h; exfalso; omega)
      go_simp
      refine wpAny_take (i := 1) (v := .int .i64 k) rfl (by kernel_rfl) (by kernel_rfl) (by kernel_rfl) (fun _ _ _ h => h) (Or.inl ⟨by rfl, ?_⟩) ?_
      · intro w
        go_simp
        all_goals first | done | omega | (intro h; exfalso; omega)
      go_simp
      refine wpAny_take (i := 2) (v := .string (t.extract 0 k)) rfl (by kernel_rfl) (by kernel_rfl) (by kernel_rfl) (fun _ _ _ h => h) (Or.inl ⟨by rfl, ?_⟩) ?_
      · intro w
        go_simp
        all_goals first | done | omega | (intro h; exfalso; omega)
      go_simp
      refine wpAny_take (i := 3) (v := .pointer (some ⟨g, 0, none⟩)) rfl (by kernel_rfl) (by kernel_rfl) (by kernel_rfl) (fun _ _ _ h => h) (Or.inl ⟨by rfl, ?_⟩) ?_
      · intro w
        go_simp
        all_goals first | done | omega | (intro h; exfalso; omega)
      go_simp
      refine wpAny_take (i := 4) (v := .pointer (some ⟨g, 0, none⟩)) rfl (by kernel_rfl) (by kernel_rfl) (by kernel_rfl) (fun _ _ _ h => h) (Or.inl ⟨by rfl, ?_⟩) ?_
      · intro w
        go_simp
        all_goals first | done | omega | (intro h; exfalso; omega)
      go_simp
      refine wpAny_take (i := 8) (v := .string t) rfl (by kernel_rfl) (by kernel_rfl) (by kernel_rfl) (fun _ _ _ h => h) (Or.inl ⟨by rfl, ?_⟩) ?_
      · intro w
        go_simp
        all_goals first | done | omega | (intro h; exfalso; omega)
      go_simp
      refine wpAny_take (i := 9) (v := .int .i64 t.size) rfl (by kernel_rfl) (by kernel_rfl) (by kernel_rfl) (fun _ _ _ h => h) (Or.inl ⟨by rfl, ?_⟩) ?_
      · intro w
        go_simp
        all_goals first | done | omega | (intro h; exfalso; omega)
      go_simp
      refine wpAny_take (i := 10) (v := .string ByteArray.empty) rfl (by kernel_rfl) (by kernel_rfl) (by kernel_rfl) (fun _ _ _ h => h) (Or.inl ⟨by rfl, ?_⟩) ?_
      · intro w
        go_simp
        all_goals first | done | omega | (intro h; exfalso; omega)
      go_simp
      refine wpAny_ready (rs := [5]) (by kernel_rfl) (by simp) ?_
      refine AllReady.cons rfl (fun K hK => ?_) AllReady.nil
      go_simp
      go_wp2_with fail
      refine (srcN g o c cp (a + 1 + 1) z 3 w2.drew ⟨Hs2.out.blk⟩ ((HC.out.grown Hg2.out (Nat.le_refl _)).drewC) (by omega) hl (by omega) (by omega)).mono ?_
      rintro e3 w3 ⟨v3, rfl, hv3, hs3, hg3⟩
      have Hs3 := mkH hs3
      have Hg3 := mkH (gr_trans (gr_trans Hg2.out (gr_below ((Below.refl w2.heap.size w2).drew))) hg3)
      clear hs3 hg3
      show K _ _
      refine hK _ _ ?_
      clear hK K
      go_simp
      refine wpAny_ready (rs := [6]) (by kernel_rfl) (by simp) ?_
      refine AllReady.cons rfl (fun K hK => ?_) AllReady.nil
      go_simp
      go_wp2_with fail
      refine (srcBytes g o c cp (a + 1 + 1 + 1) z v3 _ Hs3.out (HC.out.grown Hg3.out (Nat.le_refl _)) (by omega) hl (by omega)).mono ?_
      rintro e4 w4 ⟨u, a4, rfl, hu, ha4, hs4, hg4⟩
      have Hs4 := mkH hs4
      have Hg4 := mkH (gr_trans Hg3.out hg4)
      clear hs4 hg4
      show K _ _
      refine hK _ _ ?_
      clear hK K
      go_simp
      refine wpAny_take (i := 7) (v := .string (t.extract 0 k ++ u)) rfl (by kernel_rfl) (by kernel_rfl) (by kernel_rfl) (fun _ _ _ h => h) (Or.inl ⟨by rfl, ?_⟩) ?_
      · intro w
        go_simp
        all_goals first | done | omega | (intro h; exfalso; omega)
      go_simp
      refine wpAny_take (i := 11) (v := .string (t.extract 0 k ++ u)) rfl (by kernel_rfl) (by kernel_rfl) (by kernel_rfl) (fun _ _ _ h => h) (Or.inl ⟨by rfl, ?_⟩) ?_
      · intro w
        go_simp
        all_goals first | done | omega | (intro h; exfalso; omega)
      go_simp
      refine wpAny_take (i := 12) (v := .string (t.extract 0 k ++ u)) rfl (by kernel_rfl) (by kernel_rfl) (by kernel_rfl) (fun _ _ _ h => h) (Or.inl ⟨by rfl, ?_⟩) ?_
      · intro w
        go_simp
        all_goals first | done | omega | (intro h; exfalso; omega)
      go_simp
      refine wpAny_done (by kernel_rfl) ?_ _
      have hsz : (t.extract 0 k ++ u).size ≤ t.size + 9 := by
        simp only [ByteArray.size_append, ByteArray.size_extract]
        omega
      go_wp2
      go_ret
      exact ⟨_, a4, rfl, hsz, by omega, Hs4.out, Hg4.out⟩
    · obtain ⟨e, he2⟩ : ∃ e, e = k + v2 := ⟨_, rfl⟩
      have heI : (k : Int) + (v2 : Int) = (e : Int) := by omega
      have hle : e ≤ t.size := by omega
      have hx2 : (t.extract e t.size).size = t.size - e := by rw [ByteArray.size_extract]; omega
      clear he2
      go_wp2
      refine wp_region_any (by kernel_rfl) ?_
      refine wpAny_take (i := 0) (v := .string t) rfl (by kernel_rfl) (by kernel_rfl) (by kernel_rfl) (fun _ _ _ h => h) (Or.inl ⟨by rfl, ?_⟩) ?_
      · intro w
        go_simp
        all_goals first | done | omega | (intro h; exfalso; omega)
      go_simp
      refine wpAny_take (i := 1) (v := .int .i64 k) rfl (by kernel_rfl) (by kernel_rfl) (by kernel_rfl) (fun _ _ _ h => h) (Or.inl ⟨by rfl, ?_⟩) ?_
      · intro w
        go_simp
        all_goals first | done | omega | (intro h; exfalso; omega)
      go_simp
      refine wpAny_take (i := 2) (v := .string (t.extract 0 k)) rfl (by kernel_rfl) (by kernel_rfl) (by kernel_rfl) (fun _ _ _ h => h) (Or.inl ⟨by rfl, ?_⟩) ?_
      · intro w
        go_simp
        all_goals first | done | omega | (intro h; exfalso; omega)
      go_simp
      refine wpAny_take (i := 3) (v := .pointer (some ⟨g, 0, none⟩)) rfl (by kernel_rfl) (by kernel_rfl) (by kernel_rfl) (fun _ _ _ h => h) (Or.inl ⟨by rfl, ?_⟩) ?_
      · intro w
        go_simp
        all_goals first | done | omega | (intro h; exfalso; omega)
      go_simp
      refine wpAny_take (i := 4) (v := .pointer (some ⟨g, 0, none⟩)) rfl (by kernel_rfl) (by kernel_rfl) (by kernel_rfl) (fun _ _ _ h => h) (Or.inl ⟨by rfl, ?_⟩) ?_
      · intro w
        go_simp
        all_goals first | done | omega | (intro h; exfalso; omega)
      go_simp
      refine wpAny_take (i := 8) (v := .string t) rfl (by kernel_rfl) (by kernel_rfl) (by kernel_rfl) (fun _ _ _ h => h) (Or.inl ⟨by rfl, ?_⟩) ?_
      · intro w
        go_simp
        all_goals first | done | omega | (intro h; exfalso; omega)
      go_simp
      refine wpAny_take (i := 9) (v := .int .i64 e) rfl (by kernel_rfl) (by kernel_rfl) (by kernel_rfl) (fun _ _ _ h => h) (Or.inl ⟨by rfl, ?_⟩) ?_
      · intro w
        go_simp
        all_goals first | done | omega | (intro h; exfalso; omega)
      go_simp
      refine wpAny_take (i := 10) (v := .string (t.extract e t.size)) rfl (by kernel_rfl) (by kernel_rfl) (by kernel_rfl) (fun _ _ _ h => h) (Or.inl ⟨by rfl, ?_⟩) ?_
      · intro w
        go_simp
        all_goals first | done | omega | (intro h; exfalso; omega)
      go_simp
      refine wpAny_ready (rs := [5]) (by kernel_rfl) (by simp) ?_
      refine AllReady.cons rfl (fun K hK => ?_) AllReady.nil
      go_simp
      go_wp2_with fail
      refine (srcN g o c cp (a + 1 + 1) z 3 w2.drew ⟨Hs2.out.blk⟩ ((HC.out.grown Hg2.out (Nat.le_refl _)).drewC) (by omega) hl (by omega) (by omega)).mono ?_
      rintro e3 w3 ⟨v3, rfl, hv3, hs3, hg3⟩
      have Hs3 := mkH hs3
      have Hg3 := mkH (gr_trans (gr_trans Hg2.out (gr_below ((Below.refl w2.heap.size w2).drew))) hg3)
      clear hs3 hg3
      show K _ _
      refine hK _ _ ?_
      clear hK K
      go_simp
      refine wpAny_ready (rs := [6]) (by kernel_rfl) (by simp) ?_
      refine AllReady.cons rfl (fun K hK => ?_) AllReady.nil
      go_simp
      go_wp2_with fail
      refine (srcBytes g o c cp (a + 1 + 1 + 1) z v3 _ Hs3.out (HC.out.grown Hg3.out (Nat.le_refl _)) (by omega) hl (by omega)).mono ?_
      rintro e4 w4 ⟨u, a4, rfl, hu, ha4, hs4, hg4⟩
      have Hs4 := mkH hs4
      have Hg4 := mkH (gr_trans Hg3.out hg4)
      clear hs4 hg4
      show K _ _
      refine hK _ _ ?_
      clear hK K
      go_simp
      refine wpAny_take (i := 7) (v := .string (t.extract 0 k ++ u)) rfl (by kernel_rfl) (by kernel_rfl) (by kernel_rfl) (fun _ _ _ h => h) (Or.inl ⟨by rfl, ?_⟩) ?_
      · intro w
        go_simp
        all_goals first | done | omega | (intro h; exfalso; omega)
      go_simp
      refine wpAny_take (i := 11) (v := .string (t.extract 0 k ++ u ++ t.extract e t.size)) rfl (by kernel_rfl) (by kernel_rfl) (by kernel_rfl) (fun _ _ _ h => h) (Or.inl ⟨by rfl, ?_⟩) ?_
      · intro w
        go_simp
        all_goals first | done | omega | (intro h; exfalso; omega)
      go_simp
      refine wpAny_take (i := 12) (v := .string (t.extract 0 k ++ u ++ t.extract e t.size)) rfl (by kernel_rfl) (by kernel_rfl) (by kernel_rfl) (fun _ _ _ h => h) (Or.inl ⟨by rfl, ?_⟩) ?_
      · intro w
        go_simp
        all_goals first | done | omega | (intro h; exfalso; omega)
      go_simp
      refine wpAny_done (by kernel_rfl) ?_ _
      have hsz : (t.extract 0 k ++ u ++ t.extract e t.size).size ≤ t.size + 9 := by
        simp only [ByteArray.size_append, ByteArray.size_extract]
        omega
      go_wp2
      go_ret
      exact ⟨_, a4, rfl, hsz, by omega, Hs4.out, Hg4.out⟩
end Go.Proofs.YtdjghniinnfncaaGreatDoor
namespace Go.Proofs.YtdjghniinnfncaaGreatDoor
open Go.RowKit Go.Lib
namespace Pl
def by8 (n : Int) : UInt8 := UInt8.ofNat n.toNat
set_option maxRecDepth 20000 in
theorem by8_eq (n : Int) (a : UInt8) (h0 : 0 ≤ n) (h1 : n < 256) : by8 n = a ↔ n = (a.toNat : Int) := by
  constructor
  · rintro rfl
    simp [by8, UInt8.toNat_ofNat']
    omega
  · intro h
    apply UInt8.toNat_inj.1
    simp [by8, UInt8.toNat_ofNat']
    omega
end Pl
set_option maxRecDepth 20000 in
theorem by8_val (n : Int) (h0 : 0 ≤ n) (h1 : n < 256) : ((Pl.by8 n).toNat : Int) = n := ((Pl.by8_eq n _ h0 h1).1 rfl).symm
set_option maxRecDepth 20000 in
theorem w64 (x : Int) (h0 : -9223372036854775808 ≤ x) (h1 : x ≤ 9223372036854775807) : IntKind.i64.wrap x = x := by
  unfold IntKind.wrap
  simp [IntKind.bits, IntKind.signed]
  omega
set_option maxRecDepth 20000 in
theorem w8 (x : Int) (h0 : 0 ≤ x) (h1 : x < 256) : IntKind.u8.wrap x = x := by
  unfold IntKind.wrap
  simp [IntKind.bits, IntKind.signed]
  omega
set_option maxRecDepth 20000 in
theorem text1 (c : UInt8) (w : World) : (convert 22 9 (.slice (some ⟨w.heap.size, 0, none⟩) 1 1)).run Tryz.prog (w.alloc (.cells #[.int .u8 (c.toNat : Int)] 5)) = .ok (.string ⟨#[c]⟩) (w.alloc (.cells #[.int .u8 (c.toNat : Int)] 5)) := by
  refine run_convert_bytes_back (P := Tryz.prog) _ 22 9 5 ⟨w.heap.size, 0, none⟩ 1 [c] Tryz.underlying22 Tryz.underlying5 Tryz.underlying9 ?_
  intro j hj
  match j, hj with
  | 0, hj => rw [add_off]; simp
set_option maxRecDepth 20000 in
theorem dec_len : ∀ n : Nat, (decDigits n).length ≤ n + 1 := by
  intro n
  induction n using Nat.strongRecOn with
  | ind n ih =>
    rw [decDigits]
    by_cases h : n < 10
    · rw [dif_pos h]; simp
    · rw [dif_neg h, List.length_append]
      have := ih (n / 10) (by omega)
      simp only [List.length_cons, List.length_nil]
      omega
set_option maxRecDepth 20000 in
theorem ba_join (a b : List UInt8) : (⟨a.toArray⟩ : ByteArray) ++ ⟨b.toArray⟩ = ⟨(a ++ b).toArray⟩ := by
  apply ByteArray.ext
  simp
set_option maxRecDepth 20000 in
theorem textD (d : Int) (h0 : 0 ≤ d) (h1 : d < 256) (w : World) : (convert 22 9 (.slice (some ⟨w.heap.size, 0, none⟩) 1 1)).run Tryz.prog (w.alloc (.cells #[.int .u8 d] 5)) = .ok (.string ⟨#[Pl.by8 d]⟩) (w.alloc (.cells #[.int .u8 d] 5)) := by
  have := text1 (Pl.by8 d) w
  rw [by8_val d h0 h1] at this
  exact this
set_option maxRecDepth 20000 in
theorem textAt (d : Int) (h0 : 0 ≤ d) (h1 : d < 256) (w w3 : World) (hb : Below (w.alloc (.cells #[.int .u8 d] 5)).heap.size (w.alloc (.cells #[.int .u8 d] 5)).drew w3) :
    (convert 22 9 (.slice (some ⟨w.heap.size, 0, none⟩) 1 1)).run Tryz.prog w3 = .ok (.string ⟨#[Pl.by8 d]⟩) w3 := by
  refine run_convert_bytes_back (P := Tryz.prog) _ 22 9 5 ⟨w.heap.size, 0, none⟩ 1 [Pl.by8 d] Tryz.underlying22 Tryz.underlying5 Tryz.underlying9 ?_
  intro j hj
  match j, hj with
  | 0, hj =>
    rw [add_off]
    refine (hb.cell (p := ⟨w.heap.size, 0, none⟩) (by simp)).trans ?_
    rw [List.getElem_singleton, by8_val d h0 h1]
    simp
set_option maxRecDepth 20000 in
theorem textDd (d : Int) (h0 : 0 ≤ d) (h1 : d < 256) (w : World) : (convert 22 9 (.slice (some ⟨w.heap.size, 0, none⟩) 1 1)).run Tryz.prog (w.alloc (.cells #[.int .u8 d] 5)).drew = .ok (.string ⟨#[Pl.by8 d]⟩) (w.alloc (.cells #[.int .u8 d] 5)).drew := textD d h0 h1 w.drew
set_option maxRecDepth 10000 in
set_option maxHeartbeats 1000000 in
theorem specDec1 (n : Nat) (hn : n < 10) (w : World) : Calls Tryz.prog 15 #[.int .i64 n] w fun e w' => e = .returned (.string ⟨(decDigits n).toArray⟩) ∧ Below w.heap.size w w' := by
  have hbA : ∀ b, Below w.heap.size w (w.alloc b) := fun b => (Below.refl _ _).alloc (Nat.le_refl _) _
  have ht := textD (48 + (n : Int)) (by omega) (by omega) w
  have hd : Hid ((⟨(decDigits n).toArray⟩ : ByteArray) = ⟨#[Pl.by8 (48 + (n : Int))]⟩) := show _ = _ from by
    rw [decDigits, dif_pos hn]
    rfl
  rw [hd.out]
  go_enter Tryz.func15, Tryz.ntmps15
  go_wp2
  go_ret
  exact ⟨rfl, hbA _⟩
set_option maxRecDepth 10000 in
set_option maxHeartbeats 1000000 in
theorem specDecStep (n : Nat) (hn : n ≤ 99999999999) (h10 : ¬ n < 10) (c1 : ∀ w : World, Calls Tryz.prog 15 #[.int .i64 ((n / 10 : Nat) : Int)] w fun e w' => e = .returned (.string ⟨(decDigits (n / 10)).toArray⟩) ∧ Below w.heap.size w w') (w : World) : Calls Tryz.prog 15 #[.int .i64 n] w fun e w' => e = .returned (.string ⟨(decDigits n).toArray⟩) ∧ Below w.heap.size w w' := by
  · skip
    have hd : Hid ((⟨(decDigits n).toArray⟩ : ByteArray) = ⟨(decDigits (n / 10)).toArray⟩ ++ ⟨#[Pl.by8 (48 + (n : Int) % 10)]⟩) := show _ = _ from by
      have e : Pl.by8 (48 + (n : Int) % 10) = UInt8.ofNat (48 + n % 10) := by
        unfold Pl.by8
        congr 1
      rw [e, decDigits, dif_neg h10]
      exact (ba_join _ [UInt8.ofNat (48 + n % 10)]).symm
    rw [hd.out]
    have hz : (⟨(decDigits (n / 10)).toArray⟩ : ByteArray).size ≤ 99999999999 := by
      have := dec_len (n / 10)
      show (decDigits (n / 10)).toArray.size ≤ 99999999999
      rw [List.size_toArray]
      omega
    have c2 : ∀ w : World, Calls Tryz.prog 15 #[.int .i64 ((n : Int) / 10)] w fun e w' => e = .returned (.string ⟨(decDigits (n / 10)).toArray⟩) ∧ Below w.heap.size w w' := c1
    generalize (⟨(decDigits (n / 10)).toArray⟩ : ByteArray) = db at *
    clear c1 hd
    go_enter Tryz.func15, Tryz.ntmps15
    go_wp2
    have t0 := textDd (48 + (n : Int) % 10) (by omega) (by omega) w
    have hbA : ∀ b, Below w.heap.size w (w.alloc b) := fun b => (Below.refl _ _).alloc (Nat.le_refl _) _
    have nz : ¬ 9223372036854775807 < db.size + 1 := by omega
    have k1 : IntKind.i64.wrap ((n : Int) / 10) = (n : Int) / 10 := w64 _ (by omega) (by omega)
    have k2 : (n : Int).tmod 10 = (n : Int) % 10 := Int.tmod_eq_emod_of_nonneg (by omega)
    have k3 : IntKind.i64.wrap (48 + (n : Int) % 10) = 48 + (n : Int) % 10 := w64 _ (by omega) (by omega)
    have k4 : IntKind.u8.wrap (48 + (n : Int) % 10) = 48 + (n : Int) % 10 := w8 _ (by omega) (by omega)
    refine wp_region_any (by kernel_rfl) ?_
    refine wpAny_take (i := 0) (v := .int .i64 (n : Int)) rfl (by kernel_rfl) (by kernel_rfl) (by kernel_rfl) (fun _ _ _ h => h) (Or.inl ⟨by rfl, ?_⟩) ?_
    · intro w
      go_simp
    go_simp
    refine wpAny_take (i := 1) (v := .int .i64 ((n : Int) / 10)) rfl (by kernel_rfl) (by kernel_rfl) (by kernel_rfl) (fun _ _ _ h => h) (Or.inl ⟨by rfl, ?_⟩) ?_
    · intro w
      go_simp
    go_simp
    refine wpAny_take (i := 3) (v := .int .i64 (n : Int)) rfl (by kernel_rfl) (by kernel_rfl) (by kernel_rfl) (fun _ _ _ h => h) (Or.inl ⟨by rfl, ?_⟩) ?_
    · intro w
      go_simp
    go_simp
    refine wpAny_take (i := 4) (v := .int .i64 ((n : Int) % 10)) rfl (by kernel_rfl) (by kernel_rfl) (by kernel_rfl) (fun _ _ _ h => h) (Or.inl ⟨by rfl, ?_⟩) ?_
    · intro w
      go_simp
    go_simp
    refine wpAny_take (i := 5) (v := .int .i64 (48 + (n : Int) % 10)) rfl (by kernel_rfl) (by kernel_rfl) (by kernel_rfl) (fun _ _ _ h => h) (Or.inl ⟨by rfl, ?_⟩) ?_
    · intro w
      go_simp
    go_simp
    refine wpAny_take (i := 6) (v := .int .u8 (48 + (n : Int) % 10)) rfl (by kernel_rfl) (by kernel_rfl) (by kernel_rfl) (fun _ _ _ h => h) (Or.inl ⟨by rfl, ?_⟩) ?_
    · intro w
      go_simp
    go_simp
    refine wpAny_ready (rs := [2, 7]) (by kernel_rfl) (by simp) ?_
    refine AllReady.cons rfl (fun K hK => ?_) (AllReady.cons rfl (fun K hK => ?_) AllReady.nil)
    · go_simp
      go_wp2_with fail
      refine (c2 _).mono ?_
      rintro e w3 ⟨rfl, hb3⟩
      show K _ w3
      refine hK _ _ ?_
      clear hK K
      go_simp
      have t1 := textD (48 + (n : Int) % 10) (by omega) (by omega) w3
      refine wpAny_ready (rs := [7]) (by kernel_rfl) (by simp) ?_
      refine AllReady.cons rfl (fun K hK => ?_) AllReady.nil
      go_simp
      refine hK _ _ ?_
      clear hK K
      go_simp
      refine wpAny_ready (rs := [8]) (by kernel_rfl) (by simp) ?_
      refine AllReady.cons rfl (fun K hK => ?_) AllReady.nil
      go_simp
      refine hK _ _ ?_
      clear hK K
      go_simp
      refine wpAny_take (i := 9) (v := .string (db ++ ⟨#[Pl.by8 (48 + (n : Int) % 10)]⟩)) rfl (by kernel_rfl) (by kernel_rfl) (by kernel_rfl) (fun _ _ _ h => h) (Or.inl ⟨by rfl, ?_⟩) ?_
      · intro w
        go_simp
      go_simp
      refine wpAny_take (i := 10) (v := .string (db ++ ⟨#[Pl.by8 (48 + (n : Int) % 10)]⟩)) rfl (by kernel_rfl) (by kernel_rfl) (by kernel_rfl) (fun _ _ _ h => h) (Or.inl ⟨by rfl, ?_⟩) ?_
      · intro w
        go_simp
      go_simp
      refine wpAny_done (by kernel_rfl) ?_ _
      have hbz := ((Below.refl _ _).drew.trans hb3).alloc hb3.size (.cells #[.int .u8 (48 + (n : Int) % 10)] 5)
      clear t0
      go_wp2
      go_ret
      exact ⟨rfl, hbz⟩
    · go_simp
      refine hK _ _ ?_
      clear hK K
      go_simp
      refine wpAny_ready (rs := [2, 8]) (by kernel_rfl) (by simp) ?_
      refine AllReady.cons rfl (fun K hK => ?_) (AllReady.cons rfl (fun K hK => ?_) AllReady.nil)
      · go_simp
        go_wp2_with fail
        refine (c2 _).mono ?_
        rintro e w3 ⟨rfl, hb3⟩
        show K _ w3
        refine hK _ _ ?_
        clear hK K
        go_simp
        have t2 := textAt (48 + (n : Int) % 10) (by omega) (by omega) w w3 hb3
        refine wpAny_ready (rs := [8]) (by kernel_rfl) (by simp) ?_
        refine AllReady.cons rfl (fun K hK => ?_) AllReady.nil
        go_simp
        refine hK _ _ ?_
        clear hK K
        go_simp
        refine wpAny_take (i := 9) (v := .string (db ++ ⟨#[Pl.by8 (48 + (n : Int) % 10)]⟩)) rfl (by kernel_rfl) (by kernel_rfl) (by kernel_rfl) (fun _ _ _ h => h) (Or.inl ⟨by rfl, ?_⟩) ?_
        · intro w
          go_simp
        go_simp
        refine wpAny_take (i := 10) (v := .string (db ++ ⟨#[Pl.by8 (48 + (n : Int) % 10)]⟩)) rfl (by kernel_rfl) (by kernel_rfl) (by kernel_rfl) (fun _ _ _ h => h) (Or.inl ⟨by rfl, ?_⟩) ?_
        · intro w
          go_simp
        go_simp
        refine wpAny_done (by kernel_rfl) ?_ _
        have hbz := (hbA _).drew.trans (hb3.mono (hbA (.cells #[.int .u8 (48 + (n : Int) % 10)] 5)).size)
        clear t0
        go_wp2
        go_ret
        exact ⟨rfl, hbz⟩
      · go_simp
        refine hK _ _ ?_
        clear hK K
        go_simp
        refine wpAny_ready (rs := [2]) (by kernel_rfl) (by simp) ?_
        refine AllReady.cons rfl (fun K hK => ?_) AllReady.nil
        go_simp
        go_wp2_with fail
        refine (c2 _).mono ?_
        rintro e w3 ⟨rfl, hb3⟩
        show K _ w3
        refine hK _ _ ?_
        clear hK K
        go_simp
        refine wpAny_take (i := 9) (v := .string (db ++ ⟨#[Pl.by8 (48 + (n : Int) % 10)]⟩)) rfl (by kernel_rfl) (by kernel_rfl) (by kernel_rfl) (fun _ _ _ h => h) (Or.inl ⟨by rfl, ?_⟩) ?_
        · intro w
          go_simp
        go_simp
        refine wpAny_take (i := 10) (v := .string (db ++ ⟨#[Pl.by8 (48 + (n : Int) % 10)]⟩)) rfl (by kernel_rfl) (by kernel_rfl) (by kernel_rfl) (fun _ _ _ h => h) (Or.inl ⟨by rfl, ?_⟩) ?_
        · intro w
          go_simp
        go_simp
        refine wpAny_done (by kernel_rfl) ?_ _
        have hbz := (hbA _).drew.trans (hb3.mono (hbA (.cells #[.int .u8 (48 + (n : Int) % 10)] 5)).size)
        clear t0
        go_wp2
        go_ret
        exact ⟨rfl, hbz⟩
set_option maxRecDepth 20000 in
theorem specDec : ∀ (n : Nat), n ≤ 99999999999 → ∀ w : World, Calls Tryz.prog 15 #[.int .i64 n] w fun e w' => e = .returned (.string ⟨(decDigits n).toArray⟩) ∧ Below w.heap.size w w' := by
  intro n
  induction n using Nat.strongRecOn with
  | ind n ih =>
    intro hn w
    by_cases h10 : n < 10
    · exact specDec1 n h10 w
    · exact specDecStep n hn h10 (fun w => ih (n / 10) (by omega) (by omega) w) w
end Go.Proofs.YtdjghniinnfncaaGreatDoor
