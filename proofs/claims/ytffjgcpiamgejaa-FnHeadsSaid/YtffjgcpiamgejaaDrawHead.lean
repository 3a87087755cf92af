
/- The draws of WriteHead. -/
import Derived.Test.YtffjgcpiamgejaaDrawFields
namespace Go.Proofs.Ytffjgcpiamgejaa
open Go.RowKit Go.Lib
theorem small_snoc {F : List Fl} (h : Small F) (f : Fl) (h1 : f.1.length ≤ 80) (h2 : f.2.length ≤ 400) : Small (F ++ [f]) := by
  intro x hx
  rcases List.mem_append.1 hx with h' | h'
  · exact h x h'
  · obtain rfl := List.mem_singleton.1 h'
    exact ⟨h1, h2⟩
theorem gr_new2 {w w1 w' : World} {g : Nat} (hb : Below w.heap.size w w1) (hg : w1.grownBy w' (some g)) (h : w.heap.size ≤ g) : Below w.heap.size w w' :=
  ⟨hg.os.trans hb.os, hg.tape.trans hb.tape, hg.output.trans hb.output, Nat.le_trans hb.size hg.size, fun i hi => (hg.block i (by have := hb.size; omega) (by intro e; have := Option.some.inj e; omega)).trans (hb.block i hi)⟩
theorem OwnF.low {B B' : Nat} {v : Value} {F : List Fl} {w : World} (h : OwnF B v F w) (hB : B' ≤ B) : OwnF B' v F w := by
  obtain ⟨h1, h2⟩ := h
  refine ⟨h1, ?_⟩
  rcases h2 with h2 | ⟨k, cap, cur, e1, e2, e3, e4⟩
  · exact .inl h2
  · exact .inr ⟨k, cap, cur, e1, by omega, e3, e4⟩
set_option maxRecDepth 10000 in
set_option maxHeartbeats 4000000 in
theorem drawWriteHead (o : Option Addr) (c : List UInt8) (cp : Nat) (w : World) (hc : Code w.heap.size w o c) (hl : c.length ≤ 1048576) :
    Calls Try.prog 4 #[.slice o c.length cp] w fun e w' => ∃ (v : Value) (F : List Fl), e = .returned v ∧ OwnF w.heap.size v F w' ∧ F.length ≤ 12 ∧ Small F ∧ Below w.heap.size w w' := by
  obtain ⟨i0, hi, hy0, hy1, hy2⟩ := info_parts Try.info43
  obtain ⟨g, hgw⟩ : ∃ g, w.heap.size = g := ⟨_, rfl⟩
  have HC : Hid (Code g w o c) := by rw [← hgw]; exact hc
  have hS := srcNew o c.length cp w hl
  rw [hgw] at hS ⊢
  clear hc
  go_enter Try.func4, Try.ntmps4
  go_wp2_with fail
  refine hS.mono ?_
  rintro e w1 ⟨z, rfl, hz, hs1, hb1⟩
  have hC1 : Code g w1 o c := HC.out.below hb1
  have hgl1 := hs1.lt
  have hFs := srcFields g o c cp 0 z w1 hs1 hC1 (by omega) hl hz
  clear hS
  go_wp2_with fail
  refine hFs.mono ?_
  rintro e w2 ⟨v2, F2, a2, rfl, hown2, hF2, hsm2, ha2, hs2, hg2⟩
  have HC1 : Hid (Code g w1 o c) := hC1
  have hO := srcOne g o c cp a2 z 5 w2 hs2 (HC1.out.grown hg2 (Nat.le_refl _)) (by omega) hl (by omega) (by omega)
  clear hFs hC1 HC
  go_wp2_with fail
  refine hO.mono ?_
  rintro e w3 ⟨b3, rfl, hs3, hg3⟩
  have Hs3 : Hid (Src w3 g o c.length cp (a2 + 1) z) := hs3
  have Hg3 : Hid (w1.grownBy w3 (some g)) := gr_trans hg2 hg3
  have Hown3 : Hid (OwnF w1.heap.size v2 F2 w3) := hown2.gr hg3 hgl1
  have Hsm2 : Hid (Small F2) := hsm2
  clear hO hs3 hg3 hs2 hg2 hown2 hsm2 hs1
  have Hb1 : Hid (Below g w w1) := hb1
  clear hb1
  cases b3
  · skip
    have hO6 := srcOne g o c cp (a2 + 1) z 5 w3 Hs3.out (HC1.out.grown Hg3.out (Nat.le_refl _)) (by omega) hl (by omega) (by omega)
    go_wp2_with fail
    refine hO6.mono ?_
    rintro e w6 ⟨b6, rfl, hs6, hg6⟩
    have Hs6 : Hid (Src w6 g o c.length cp (a2 + 1 + 1) z) := hs6
    have Hg6 : Hid (w1.grownBy w6 (some g)) := gr_trans Hg3.out hg6
    have Hown6 : Hid (OwnF w1.heap.size v2 (F2) w6) := OwnF.gr Hown3.out hg6 hgl1
    clear hO6 hs6 hg6 Hs3 Hg3 Hown3
    cases b6
    · go_wp2
      go_ret
      exact ⟨_, _, rfl, OwnF.low Hown6.out (by omega), (by first | omega | (simp; omega)), Hsm2.out, (by have := gr_new2 (g := g) (by rw [hgw]; exact Hb1.out) Hg6.out (by omega); rw [hgw] at this; exact this)⟩
    · have hbA : ∀ cs, Below w6.heap.size w6 (w6.alloc (.cells cs 9)) := fun cs => (Below.refl _ _).alloc (Nat.le_refl _) _
      have hg6l := Hg6.out.size
      have hN7 := fun cs => srcN g o c cp (a2 + 1 + 1) z 5 (w6.alloc (.cells cs 9)) (Hs6.out.below (hbA cs)) (HC1.out.grown (gr_trans Hg6.out (gr_below (hbA cs))) (Nat.le_refl _)) (by omega) hl (by omega) (by omega)
      have HN7 := (show Hid _ from hN7)
      clear hN7
      go_wp2_with fail
      refine (HN7.out _).mono ?_
      rintro e w7 ⟨v7, rfl, hv7, hs7, hg7⟩
      obtain ⟨t7, ht7, hts7⟩ := table_at (M := 4) hg7 (by omega) (show v7 < 5 by omega) (by decide)
      have Hs7 : Hid (Src w7 g o c.length cp (a2 + 1 + 1 + 1) z) := hs7
      have Hg7 : Hid (w1.grownBy w7 (some g)) := gr_trans Hg6.out (gr_trans (gr_below (hbA _)) hg7)
      have Hown7 : Hid (OwnF w1.heap.size v2 (F2) w7) := OwnF.gr (OwnF.keep Hown6.out (hbA _)) hg7 hgl1
      clear HN7 hg7 hs7 hbA Hs6 Hg6 Hown6
      have hv7' : v7 < 5 := by omega
      go_wp2_with (at_builtin; go_must (refine wp_appF (W := w7) rfl _ _ 23 rfl i0 Try.underlying23 hi hy0 hy1 hy2 w1.heap.size v2 (F2) rfl Hown7.out ([65], t7.data.toList) _ rfl 1 rfl (by first | omega | (simp; omega)) Hg7.out.size (Below.refl _ _) g _ 56 (0, 0) (by decide) Hs7.out.blk ?_; intro v8 w8 hown8 hb8 hblk8))
      have Hg8 : Hid (w1.grownBy w8 (some g)) := gr_belowB Hg7.out hb8
      go_ret
      exact ⟨_, _, rfl, OwnF.low hown8 (by omega), by simp; omega, small_snoc Hsm2.out _ (by simp) (by show t7.data.toList.length ≤ 400; rw [Pl.len_list]; omega), (by have := gr_new2 (g := g) (by rw [hgw]; exact Hb1.out) Hg8.out (by omega); rw [hgw] at this; exact this)⟩
  · have hbA : ∀ cs, Below w3.heap.size w3 (w3.alloc (.cells cs 9)) := fun cs => (Below.refl _ _).alloc (Nat.le_refl _) _
    have hg3l := Hg3.out.size
    have hN4 := fun cs => srcN g o c cp (a2 + 1) z 6 (w3.alloc (.cells cs 9)) (Hs3.out.below (hbA cs)) (HC1.out.grown (gr_trans Hg3.out (gr_below (hbA cs))) (Nat.le_refl _)) (by omega) hl (by omega) (by omega)
    have HN4 := (show Hid _ from hN4)
    clear hN4
    go_wp2_with fail
    refine (HN4.out _).mono ?_
    rintro e w4 ⟨v4, rfl, hv4, hs4, hg4⟩
    obtain ⟨t4, ht4, hts⟩ := table_at (M := 71) hg4 (by omega) (show v4 < 6 by omega) (by decide)
    have Hs4 : Hid (Src w4 g o c.length cp (a2 + 1 + 1) z) := hs4
    have Hg4 : Hid (w1.grownBy w4 (some g)) := gr_trans Hg3.out (gr_trans (gr_below (hbA _)) hg4)
    have Hown4 : Hid (OwnF w1.heap.size v2 F2 w4) := OwnF.gr (Hown3.out.keep (hbA _)) hg4 hgl1
    clear HN4 hg4 hs4 hbA Hs3 Hg3 Hown3
    have hv4' : v4 < 6 := by omega
    go_wp2_with (at_builtin; go_must (refine wp_appF (W := w4) rfl _ _ 23 rfl i0 Try.underlying23 hi hy0 hy1 hy2 w1.heap.size v2 F2 rfl Hown4.out (t4.data.toList, [120]) _ rfl 1 rfl (by omega) Hg4.out.size (Below.refl _ _) g _ 56 (0, 0) (by decide) Hs4.out.blk ?_; intro v5 w5 hown5 hb5 hblk5))
    have Hs5 : Hid (Src w5 g o c.length cp (a2 + 1 + 1) z) := ⟨hblk5⟩
    have Hg5 : Hid (w1.grownBy w5 (some g)) := gr_belowB Hg4.out hb5
    have Hown5 : Hid (OwnF w1.heap.size v5 (F2 ++ [(t4.data.toList, [120])]) w5) := hown5
    have Hsm5 : Hid (Small (F2 ++ [(t4.data.toList, [120])])) := show Small _ from small_snoc Hsm2.out _ (by show t4.data.toList.length ≤ 80; rw [Pl.len_list]; omega) (by simp)
    clear hown5 hb5 hblk5 Hs4 Hg4 Hown4
    have hO6 := srcOne g o c cp (a2 + 1 + 1) z 5 w5 Hs5.out (HC1.out.grown Hg5.out (Nat.le_refl _)) (by omega) hl (by omega) (by omega)
    refine hO6.mono ?_
    rintro e w6 ⟨b6, rfl, hs6, hg6⟩
    have Hs6 : Hid (Src w6 g o c.length cp (a2 + 1 + 1 + 1) z) := hs6
    have Hg6 : Hid (w1.grownBy w6 (some g)) := gr_trans Hg5.out hg6
    have Hown6 : Hid (OwnF w1.heap.size v5 (F2 ++ [(t4.data.toList, [120])]) w6) := OwnF.gr Hown5.out hg6 hgl1
    clear hO6 hs6 hg6 Hs5 Hg5 Hown5
    cases b6
    · go_wp2
      go_ret
      exact ⟨_, _, rfl, OwnF.low Hown6.out (by omega), (by first | omega | (simp; omega)), Hsm5.out, (by have := gr_new2 (g := g) (by rw [hgw]; exact Hb1.out) Hg6.out (by omega); rw [hgw] at this; exact this)⟩
    · have hbA : ∀ cs, Below w6.heap.size w6 (w6.alloc (.cells cs 9)) := fun cs => (Below.refl _ _).alloc (Nat.le_refl _) _
      have hg6l := Hg6.out.size
      have hN7 := fun cs => srcN g o c cp (a2 + 1 + 1 + 1) z 5 (w6.alloc (.cells cs 9)) (Hs6.out.below (hbA cs)) (HC1.out.grown (gr_trans Hg6.out (gr_below (hbA cs))) (Nat.le_refl _)) (by omega) hl (by omega) (by omega)
      have HN7 := (show Hid _ from hN7)
      clear hN7
      go_wp2_with fail
      refine (HN7.out _).mono ?_
      rintro e w7 ⟨v7, rfl, hv7, hs7, hg7⟩
      obtain ⟨t7, ht7, hts7⟩ := table_at (M := 4) hg7 (by omega) (show v7 < 5 by omega) (by decide)
      have Hs7 : Hid (Src w7 g o c.length cp (a2 + 1 + 1 + 1 + 1) z) := hs7
      have Hg7 : Hid (w1.grownBy w7 (some g)) := gr_trans Hg6.out (gr_trans (gr_below (hbA _)) hg7)
      have Hown7 : Hid (OwnF w1.heap.size v5 (F2 ++ [(t4.data.toList, [120])]) w7) := OwnF.gr (OwnF.keep Hown6.out (hbA _)) hg7 hgl1
      clear HN7 hg7 hs7 hbA Hs6 Hg6 Hown6
      have hv7' : v7 < 5 := by omega
      go_wp2_with (at_builtin; go_must (refine wp_appF (W := w7) rfl _ _ 23 rfl i0 Try.underlying23 hi hy0 hy1 hy2 w1.heap.size v5 (F2 ++ [(t4.data.toList, [120])]) rfl Hown7.out ([65], t7.data.toList) _ rfl 1 rfl (by first | omega | (simp; omega)) Hg7.out.size (Below.refl _ _) g _ 56 (0, 0) (by decide) Hs7.out.blk ?_; intro v8 w8 hown8 hb8 hblk8))
      have Hg8 : Hid (w1.grownBy w8 (some g)) := gr_belowB Hg7.out hb8
      go_ret
      exact ⟨_, _, rfl, OwnF.low hown8 (by omega), by simp; omega, small_snoc Hsm5.out _ (by simp) (by show t7.data.toList.length ≤ 400; rw [Pl.len_list]; omega), (by have := gr_new2 (g := g) (by rw [hgw]; exact Hb1.out) Hg8.out (by omega); rw [hgw] at this; exact this)⟩
end Go.Proofs.Ytffjgcpiamgejaa
