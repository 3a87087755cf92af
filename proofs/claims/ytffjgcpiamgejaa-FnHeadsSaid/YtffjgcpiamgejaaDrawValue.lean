
/- A source of draws: values of fields. -/
import Derived.Test.YtffjgcpiamgejaaDrawName
namespace Go.Proofs.Ytffjgcpiamgejaa
open Go.RowKit Go.Lib
set_option maxRecDepth 10000 in
set_option maxHeartbeats 4000000 in
theorem srcValue (g : Nat) (o : Option Addr) (c : List UInt8) (cp a z : Nat) (w : World) (h : Src w g o c.length cp a z) (hc : Code g w o c) (ha : a ≤ 700000) (hl : c.length ≤ 1048576) (hz : z ≤ 12) :
    Calls Try.prog 37 #[.pointer (some ⟨g, 0, none⟩)] w fun e w' => ∃ (t : ByteArray) (a' : Nat), e = .returned (.string t) ∧ t.size ≤ 400 ∧ a' ≤ a + 400 ∧ Src w' g o c.length cp a' z ∧ w.grownBy w' (some g) := by
  have hgl := h.lt
  have c2 := h.c2
  have HC : Hid (Code g w o c) := hc
  have hN := srcN g o c cp a z (4 + z) w h hc (by omega) hl (by omega) (by omega)
  clear h hc
  go_enter Try.func37, Try.ntmps37
  go_wp2_with fail
  refine hN.mono ?_
  rintro e w1 ⟨v, rfl, hv, hs1, hg1⟩
  have Hs1 : Hid (Src w1 g o c.length cp (a + 1) z) := hs1
  have Hg1 : Hid (w.grownBy w1 (some g)) := hg1
  clear hN c2 hs1 hg1
  go_wp2
  go_loopw [3, 4] (fun u i wr => ∃ (k : Nat) (t : ByteArray) (a' : Nat), i = .int .i64 k ∧ u = .string t ∧ t.size + 20 * k ≤ 321 ∧ a' + 20 * k ≤ a + 321 ∧ Hid (Src wr g o c.length cp a' z) ∧ Hid (w.grownBy wr (some g))) (fun _ i _ => (Lib.intOf i).toNat)
  case atStart => exact ⟨v, _, a + 1, rfl, rfl, (by show 1 + 20 * v ≤ 321; omega), by omega, Hs1, Hg1⟩
  case round =>
    clear Hs1 Hg1
    obtain ⟨k, t, a', rfl, rfl, htk, hak, Hs, Hg⟩ := hrel
    by_cases hk : 0 < k
    · have hN := srcN g o c cp a' z 9 wr Hs.out (HC.out.grown Hg.out (Nat.le_refl _)) (by omega) hl (by omega) (by omega)
      go_wp2_with fail
      refine hN.mono ?_
      rintro e w2 ⟨v2, rfl, hv2, hs2, hg2⟩
      have Hs2 : Hid (Src w2 g o c.length cp (a' + 1) z) := hs2
      have Hg2 : Hid (w.grownBy w2 (some g)) := gr_trans Hg.out hg2
      have hW := srcWord g o c cp (a' + 1) z w2 hs2 (HC.out.grown Hg2.out (Nat.le_refl _)) (by omega) hl
      clear hN hs2 hg2 Hs Hg
      by_cases h0 : v2 = 0
      · have e0 : ((v2 : Int) == 0) = true := by rw [h0]; rfl
        clear h0
        go_wp2
        go_roundw
        case rel => exact ⟨k - 1, _, a' + 1, by go_num, rfl, (by rw [ByteArray.size_append]; show t.size + 3 + _ ≤ _; omega), by omega, Hs2, Hg2⟩
        case measure => simp [Lib.intOf]; omega
      have e0 : ((v2 : Int) == 0) = false := beq_eq_false_iff_ne.2 (by omega)
      by_cases h1 : v2 = 1
      · have e1 : ((v2 : Int) == 1) = true := by rw [h1]; rfl
        clear h0 h1
        go_wp2_with fail
        refine hW.mono ?_
        rintro e w3 ⟨t3, a3, rfl, ht3, ha3, hs3, hg3⟩
        have Hs3 : Hid (Src w3 g o c.length cp a3 z) := hs3
        have Hg3 : Hid (w.grownBy w3 (some g)) := gr_trans Hg2.out hg3
        clear hs3 hg3 hW
        go_wp2
        go_roundw
        case rel => exact ⟨k - 1, _, a3, by go_num, rfl, (by simp only [ByteArray.size_append]; show t.size + 3 + t3.size + _ ≤ _; omega), by omega, Hs3, Hg3⟩
        case measure => simp [Lib.intOf]; omega
      have e1 : ((v2 : Int) == 1) = false := beq_eq_false_iff_ne.2 (by omega)
      by_cases h2 : v2 = 2
      · have e2 : ((v2 : Int) == 2) = true := by rw [h2]; rfl
        clear h0 h1 h2
        go_wp2_with fail
        refine hW.mono ?_
        rintro e w3 ⟨t3, a3, rfl, ht3, ha3, hs3, hg3⟩
        have Hs3 : Hid (Src w3 g o c.length cp a3 z) := hs3
        have Hg3 : Hid (w.grownBy w3 (some g)) := gr_trans Hg2.out hg3
        clear hs3 hg3 hW
        go_wp2
        go_roundw
        case rel => exact ⟨k - 1, _, a3, by go_num, rfl, (by simp only [ByteArray.size_append]; show t.size + 6 + t3.size + 1 + _ ≤ _; omega), by omega, Hs3, Hg3⟩
        case measure => simp [Lib.intOf]; omega
      have e2 : ((v2 : Int) == 2) = false := beq_eq_false_iff_ne.2 (by omega)
      by_cases h3 : v2 = 3
      · have e3 : ((v2 : Int) == 3) = true := by rw [h3]; rfl
        clear h0 h1 h2 h3
        go_wp2_with fail
        refine hW.mono ?_
        rintro e w3 ⟨t3, a3, rfl, ht3, ha3, hs3, hg3⟩
        have Hs3 : Hid (Src w3 g o c.length cp a3 z) := hs3
        have Hg3 : Hid (w.grownBy w3 (some g)) := gr_trans Hg2.out hg3
        clear hs3 hg3 hW
        go_wp2
        go_roundw
        case rel => exact ⟨k - 1, _, a3, by go_num, rfl, (by simp only [ByteArray.size_append]; show t.size + 4 + t3.size + 6 + _ ≤ _; omega), by omega, Hs3, Hg3⟩
        case measure => simp [Lib.intOf]; omega
      have e3 : ((v2 : Int) == 3) = false := beq_eq_false_iff_ne.2 (by omega)
      by_cases h4 : v2 = 4
      · have e4 : ((v2 : Int) == 4) = true := by rw [h4]; rfl
        clear h0 h1 h2 h3 h4 hW
        have hbA : ∀ cs, Below w2.heap.size w2 (w2.alloc (.cells cs 9)) := fun cs => (Below.refl _ _).alloc (Nat.le_refl _) _
        have hg2l := Hg2.out.size
        have hN3 := fun cs => srcN g o c cp (a' + 1) z 11 (w2.alloc (.cells cs 9)) (Hs2.out.below (hbA cs)) (HC.out.grown (gr_trans Hg2.out (gr_below (hbA cs))) (Nat.le_refl _)) (by omega) hl (by omega) (by omega)
        have HN3 := (show Hid _ from hN3)
        clear hN3
        go_wp2_with fail
        refine (HN3.out _).mono ?_
        rintro e w3 ⟨v3, rfl, hv3, hs3, hg3⟩
        obtain ⟨t3, ht3, hts⟩ := table_at (M := 12) hg3 (by omega) (show v3 < 11 by omega) (by decide)
        have Hs3 : Hid (Src w3 g o c.length cp (a' + 1 + 1) z) := hs3
        have Hg3 : Hid (w.grownBy w3 (some g)) := gr_trans Hg2.out (gr_trans (gr_below (hbA _)) hg3)
        clear HN3 hg3 hs3 hbA Hs2 Hg2
        have hv4 : v3 < 11 := by omega
        go_wp2
        go_roundw
        case rel => exact ⟨k - 1, _, a' + 1 + 1, by go_num, rfl, (by simp only [ByteArray.size_append]; omega), by omega, Hs3, Hg3⟩
        case measure => simp [Lib.intOf]; omega
      have e4 : ((v2 : Int) == 4) = false := beq_eq_false_iff_ne.2 (by omega)
      clear h0 h1 h2 h3 h4
      go_wp2_with fail
      refine hW.mono ?_
      rintro e w4 ⟨t4, a4, rfl, ht4, ha4, hs4, hg4⟩
      have Hs4 : Hid (Src w4 g o c.length cp a4 z) := hs4
      have Hg4 : Hid (w.grownBy w4 (some g)) := gr_trans Hg2.out hg4
      clear hs4 hg4 hW Hs2 Hg2
      have hbA : ∀ cs, Below w4.heap.size w4 (w4.alloc (.cells cs 9)) := fun cs => (Below.refl _ _).alloc (Nat.le_refl _) _
      have hg4l := Hg4.out.size
      have hN3 := fun cs => srcN g o c cp a4 z 4 (w4.alloc (.cells cs 9)) (Hs4.out.below (hbA cs)) (HC.out.grown (gr_trans Hg4.out (gr_below (hbA cs))) (Nat.le_refl _)) (by omega) hl (by omega) (by omega)
      have HN3 := (show Hid _ from hN3)
      clear hN3
      go_wp2_with fail
      refine (HN3.out _).mono ?_
      rintro e w3 ⟨v3, rfl, hv3, hs3, hg3⟩
      obtain ⟨t3, ht3, hts⟩ := table_at (M := 3) hg3 (by omega) (show v3 < 4 by omega) (by decide)
      have Hs3 : Hid (Src w3 g o c.length cp (a4 + 1) z) := hs3
      have Hg3 : Hid (w.grownBy w3 (some g)) := gr_trans Hg4.out (gr_trans (gr_below (hbA _)) hg3)
      clear HN3 hg3 hs3 hbA Hs4 Hg4
      have hv4 : v3 < 4 := by omega
      go_wp2
      go_roundw
      case rel => exact ⟨k - 1, _, a4 + 1, by go_num, rfl, (by simp only [ByteArray.size_append]; omega), by omega, Hs3, Hg3⟩
      case measure => simp [Lib.intOf]; omega
    · go_wp2
      go_ret
      exact ⟨t, a', rfl, by omega, by omega, Hs.out, Hg.out⟩
end Go.Proofs.Ytffjgcpiamgejaa
