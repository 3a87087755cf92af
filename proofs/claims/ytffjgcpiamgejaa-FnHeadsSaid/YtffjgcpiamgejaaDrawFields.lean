
/- A source of draws: lists of fields. -/
import Derived.Test.YtffjgcpiamgejaaDrawValue
import Derived.Test.YtffjgcpiamgejaaOwnF
namespace Go.Proofs.Ytffjgcpiamgejaa
open Go.RowKit Go.Lib
theorem OwnF.gr {B g : Nat} {v : Value} {F : List Fl} {w w' : World} (h : OwnF B v F w) (hg : w.grownBy w' (some g)) (hB : g < B) : OwnF B v F w' := by
  obtain ⟨h1, h2⟩ := h
  refine ⟨h1, ?_⟩
  rcases h2 with h2 | ⟨k, cap, cur, e1, e2, e3, e4⟩
  · exact .inl h2
  · refine .inr ⟨k, cap, cur, e1, e2, ?_, e4⟩
    rw [hg.block k (hp_lt e3) (by intro e; have := Option.some.inj e; omega)]
    exact e3
theorem OwnF.keep {B : Nat} {v : Value} {F : List Fl} {w w' : World} (h : OwnF B v F w) (hb : Below w.heap.size w w') : OwnF B v F w' := by
  obtain ⟨h1, h2⟩ := h
  refine ⟨h1, ?_⟩
  rcases h2 with h2 | ⟨k, cap, cur, e1, e2, e3, e4⟩
  · exact .inl h2
  · refine .inr ⟨k, cap, cur, e1, e2, ?_, e4⟩
    rw [hb.block k (hp_lt e3)]
    exact e3
def Small (F : List Fl) : Prop := ∀ f ∈ F, f.1.length ≤ 80 ∧ f.2.length ≤ 400
set_option maxRecDepth 10000 in
set_option maxHeartbeats 4000000 in
theorem srcFields (g : Nat) (o : Option Addr) (c : List UInt8) (cp a z : Nat) (w : World) (h : Src w g o c.length cp a z) (hc : Code g w o c) (ha : a ≤ 600000) (hl : c.length ≤ 1048576) (hz : z ≤ 12) :
    Calls Try.prog 15 #[.pointer (some ⟨g, 0, none⟩)] w fun e w' => ∃ (v : Value) (F : List Fl) (a' : Nat), e = .returned v ∧ OwnF w.heap.size v F w' ∧ F.length ≤ 10 ∧ Small F ∧ a' ≤ a + 5000 ∧ Src w' g o c.length cp a' z ∧ w.grownBy w' (some g) := by
  obtain ⟨i0, hi, hy0, hy1, hy2⟩ := info_parts Try.info43
  have hgl := h.lt
  have HC : Hid (Code g w o c) := hc
  have hbA : Below w.heap.size w (w.alloc (.cells #[] 43)) := (Below.refl _ _).alloc (Nat.le_refl _) _
  have hs0 := h.below hbA
  have Hg0 : Hid (w.grownBy (w.alloc (.cells #[] 43)) (some g)) := gr_below hbA
  have c2 := hs0.c2
  have hN := srcN g o c cp a z (4 + (z : Int) / 2) _ hs0 (HC.out.grown Hg0.out (Nat.le_refl _)) (by omega) hl (by omega) (by omega)
  clear h hc hbA
  go_enter Try.func15, Try.ntmps15
  go_wp2_with fail
  refine hN.mono ?_
  rintro e w1 ⟨v, rfl, hv, hs1, hg1⟩
  have Hs1 : Hid (Src w1 g o c.length cp (a + 1) z) := hs1
  have Hg1 : Hid (w.grownBy w1 (some g)) := gr_trans Hg0.out hg1
  have Hown1 : Hid (OwnF w.heap.size (.slice (some ⟨w.heap.size, 0, none⟩) 0 0) [] w1) := OwnF.gr (OwnF.made w.heap.size w (Nat.le_refl _)) hg1 hgl
  clear hN hs1 hg1 hs0 Hg0 c2
  go_wp2
  go_loopw [3, 4] (fun u i wr => ∃ (k : Nat) (F : List Fl) (a' : Nat), i = .int .i64 k ∧ F.length + k ≤ 10 ∧ a' + 450 * k ≤ a + 1 + 4500 ∧ Hid (Small F) ∧ Hid (Src wr g o c.length cp a' z) ∧ Hid (w.grownBy wr (some g)) ∧ Hid (OwnF w.heap.size u F wr)) (fun _ i _ => (Lib.intOf i).toNat)
  case atStart => exact ⟨v, [], a + 1, rfl, by simp; omega, by omega, (show Small [] from fun f hf => absurd hf (List.not_mem_nil)), Hs1, Hg1, Hown1⟩
  case round =>
    clear Hs1 Hg1 Hown1
    obtain ⟨k, F, a', rfl, hFk, hak, HF, Hs, Hg, Hown⟩ := hrel
    by_cases hk : 0 < k
    · have hNm := srcName g o c cp a' z wr Hs.out (HC.out.grown Hg.out (Nat.le_refl _)) (by omega) hl
      go_wp2_with fail
      refine hNm.mono ?_
      rintro e w2 ⟨nm, a2, rfl, hnm, ha2, hs2, hg2⟩
      have hVl := srcValue g o c cp a2 z w2 hs2 (HC.out.grown (gr_trans Hg.out hg2) (Nat.le_refl _)) (by omega) hl hz
      clear hNm
      go_wp2_with fail
      refine hVl.mono ?_
      rintro e w3 ⟨vl, a3, rfl, hvl, ha3, hs3, hg3⟩
      have Hs3 : Hid (Src w3 g o c.length cp a3 z) := hs3
      have Hg3 : Hid (w.grownBy w3 (some g)) := gr_trans (gr_trans Hg.out hg2) hg3
      have Hown3 : Hid (OwnF w.heap.size u3 F w3) := OwnF.gr (OwnF.gr Hown.out hg2 hgl) hg3 hgl
      clear hVl hs2 hs3 hg2 hg3 Hs Hg Hown
      go_wp2_with (at_builtin; go_must (refine wp_appF (W := w3) rfl _ _ 23 rfl i0 Try.underlying23 hi hy0 hy1 hy2 w.heap.size u3 F rfl Hown3.out (nm.data.toList, vl.data.toList) _ rfl 1 rfl (by omega) Hg3.out.size (Below.refl _ _) g _ 56 (0, 0) (by decide) Hs3.out.blk ?_; intro v4 w4 hown4 hb4 hblk4))
      have Hs4 : Hid (Src w4 g o c.length cp a3 z) := ⟨hblk4⟩
      have Hg4 : Hid (w.grownBy w4 (some g)) := gr_belowB Hg3.out hb4
      have Hown4 : Hid (OwnF w.heap.size v4 (F ++ [(nm.data.toList, vl.data.toList)]) w4) := hown4
      have HF4 : Hid (Small (F ++ [(nm.data.toList, vl.data.toList)])) := show Small _ from by
        intro f hf
        rcases List.mem_append.1 hf with h | h
        · exact HF.out f h
        · obtain rfl := List.mem_singleton.1 h
          exact ⟨by rw [Pl.len_list]; exact hnm, by rw [Pl.len_list]; exact hvl⟩
      clear hown4 hb4 hblk4
      go_roundw
      case rel => exact ⟨k - 1, _, a3, by go_num, by simp; omega, by omega, HF4, Hs4, Hg4, Hown4⟩
      case measure => simp [Lib.intOf]; omega
    · go_wp2
      go_ret
      exact ⟨_, F, a', rfl, Hown.out, by omega, HF.out, by omega, Hs.out, Hg.out⟩
end Go.Proofs.Ytffjgcpiamgejaa
