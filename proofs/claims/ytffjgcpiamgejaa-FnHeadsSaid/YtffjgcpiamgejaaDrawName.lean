
/- A source of draws: long texts, names of fields; the draws of Lines. -/
import Derived.Test.YtffjgcpiamgejaaDrawText
namespace Go.Proofs.Ytffjgcpiamgejaa
open Go.RowKit Go.Lib
set_option maxHeartbeats 2000000 in
theorem srcLong (g : Nat) (o : Option Addr) (c : List UInt8) (cp a z : Nat) (w : World) (h : Src w g o c.length cp a z) (hc : Code g w o c) (ha : a ≤ 800000) (hl : c.length ≤ 1048576) (hz : z ≤ 12) :
    Calls Try.prog 23 #[.pointer (some ⟨g, 0, none⟩)] w fun e w' => ∃ (t : ByteArray) (a' : Nat), e = .returned (.string t) ∧ t.size ≤ 900 ∧ a' ≤ a + 700 ∧ Src w' g o c.length cp a' z ∧ w.grownBy w' (some g) := by
  have c2 := h.c2
  have HC : Hid (Code g w o c) := hc
  have hN := srcN g o c cp a z (20 + 20 * z) w h hc (by omega) hl (by omega) (by omega)
  clear h hc
  go_enter Try.func23, Try.ntmps23
  go_wp2_with fail
  refine hN.mono ?_
  rintro e w1 ⟨v, rfl, hv, hs1, hg1⟩
  have hO := srcOne g o c cp (a + 1) z 8 w1 hs1 (HC.out.grown hg1 (Nat.le_refl _)) (by omega) hl (by omega) (by omega)
  clear hN c2
  go_wp2_with fail
  refine hO.mono ?_
  rintro e w2 ⟨b, rfl, hs2, hg2⟩
  have hg12 := gr_trans hg1 hg2
  clear hO
  cases b
  · have hB := srcBytes g o c cp (a + 1 + 1) z v w2 hs2 (HC.out.grown hg12 (Nat.le_refl _)) (by omega) hl (by omega)
    go_wp2_with fail
    refine hB.mono ?_
    rintro e w3 ⟨t, a', rfl, ht, ha', hs3, hg3⟩
    go_wp2
    go_ret
    exact ⟨t, a', rfl, by omega, by omega, hs3, gr_trans hg12 hg3⟩
  · have hN3 := srcN g o c cp (a + 1 + 1) z 30 w2 hs2 (HC.out.grown hg12 (Nat.le_refl _)) (by omega) hl (by omega) (by omega)
    go_wp2_with fail
    refine hN3.mono ?_
    rintro e w3 ⟨v3, rfl, hv3, hs3, hg3⟩
    have hg13 := gr_trans hg12 hg3
    have hB := srcBytes g o c cp (a + 1 + 1 + 1) z (55 + v3) w3 hs3 (HC.out.grown hg13 (Nat.le_refl _)) (by omega) hl (by omega)
    rw [show ((55 + v3 : Nat) : Int) = 55 + (v3 : Int) by omega] at hB
    go_wp2_with fail
    refine hB.mono ?_
    rintro e w4 ⟨t, a', rfl, ht, ha', hs4, hg4⟩
    go_wp2
    go_ret
    exact ⟨t, a', rfl, by omega, by omega, hs4, gr_trans hg13 hg4⟩
theorem Code.mono {B B' : Nat} {w : World} {o : Option Addr} {c : List UInt8} (h : Code B w o c) (hB : B ≤ B') : Code B' w o c := by
  intro k hk
  obtain ⟨a, rfl, ha, hc⟩ := h k hk
  exact ⟨a, rfl, by omega, hc⟩
theorem Code.below {B : Nat} {w w' : World} {o : Option Addr} {c : List UInt8} (h : Code B w o c) (hb : Below B w w') : Code B w' o c := by
  intro k hk
  obtain ⟨a, rfl, ha, hc⟩ := h k hk
  exact ⟨a, rfl, ha, (hb.cell (by rw [addr_block]; exact ha)).trans hc⟩
theorem gr_new {w w1 w' : World} (hb : Below w.heap.size w w1) (hg : w1.grownBy w' (some w.heap.size)) : Below w.heap.size w w' :=
  ⟨hg.os.trans hb.os, hg.tape.trans hb.tape, hg.output.trans hb.output, Nat.le_trans hb.size hg.size, fun i hi => (hg.block i (by have := hb.size; omega) (by intro e; have := Option.some.inj e; omega)).trans (hb.block i hi)⟩
set_option maxHeartbeats 2000000 in
theorem drawLines (o : Option Addr) (c : List UInt8) (cp : Nat) (w : World) (hc : Code w.heap.size w o c) (hl : c.length ≤ 1048576) :
    Calls Try.prog 7 #[.slice o c.length cp] w fun e w' => ∃ t : ByteArray, e = .returned (.string t) ∧ t.size ≤ 900 ∧ Below w.heap.size w w' := by
  have HC : Hid (Code w.heap.size w o c) := hc
  have hS := srcNew o c.length cp w hl
  clear hc
  go_enter Try.func7, Try.ntmps7
  go_wp2_with fail
  refine hS.mono ?_
  rintro e w1 ⟨z, rfl, hz, hs1, hb1⟩
  have hL := srcLong w.heap.size o c cp 0 z w1 hs1 (HC.out.below hb1) (by omega) hl hz
  clear hS
  go_wp2_with fail
  refine hL.mono ?_
  rintro e w2 ⟨t, a', rfl, ht, -, -, hg⟩
  go_wp2
  go_ret
  exact ⟨t, rfl, ht, gr_new hb1 hg⟩
/-- A text of at most M bytes. -/
def strOk (M : Nat) : Value → Bool
  | .string t => decide (t.size ≤ M)
  | _ => false
theorem table_at {w w3 : World} {cs : Array Value} {g v M : Nat} (hg : (w.alloc (.cells cs 9)).grownBy w3 (some g)) (hgl : g < w.heap.size) (hv : v < cs.size) (hcs : cs.toList.all (strOk M) = true) :
    ∃ t : ByteArray, w3.cell? ⟨w.heap.size, v, none⟩ = some (.string t) ∧ t.size ≤ M := by
  have hm : strOk M cs[v] = true := List.all_eq_true.1 hcs _ (Array.mem_toList_iff.2 (Array.getElem_mem hv))
  have hc : (w.alloc (.cells cs 9)).cell? ⟨w.heap.size, v, none⟩ = some cs[v] := by simp [hv]
  have h3 := gr_cell hg (show w.heap.size ≠ g by omega) hc
  cases hx : cs[v] with
  | string t =>
    rw [hx] at h3 hm
    exact ⟨t, h3, by simpa [strOk] using hm⟩
  | _ => rw [hx] at hm; cases hm
set_option maxHeartbeats 2000000 in
theorem srcName (g : Nat) (o : Option Addr) (c : List UInt8) (cp a z : Nat) (w : World) (h : Src w g o c.length cp a z) (hc : Code g w o c) (ha : a ≤ 800000) (hl : c.length ≤ 1048576) :
    Calls Try.prog 36 #[.pointer (some ⟨g, 0, none⟩)] w fun e w' => ∃ (t : ByteArray) (a' : Nat), e = .returned (.string t) ∧ t.size ≤ 80 ∧ a' ≤ a + 10 ∧ Src w' g o c.length cp a' z ∧ w.grownBy w' (some g) := by
  have HC : Hid (Code g w o c) := hc
  have hO := srcOne g o c cp a z 3 w h hc (by omega) hl (by omega) (by omega)
  have hgl := h.lt
  clear h hc
  go_enter Try.func36, Try.ntmps36
  go_wp2_with fail
  refine hO.mono ?_
  rintro e w2 ⟨b, rfl, hs2, hg2⟩
  clear hO
  cases b
  · have hB := srcWord g o c cp (a + 1) z w2 hs2 (HC.out.grown hg2 (Nat.le_refl _)) (by omega) hl
    go_wp2_with fail
    refine hB.mono ?_
    rintro e w3 ⟨t, a', rfl, ht, ha', hs3, hg3⟩
    go_wp2
    go_ret
    exact ⟨_, a', rfl, by rw [ByteArray.size_append]; show 2 + t.size ≤ 80; omega, by omega, hs3, gr_trans hg2 hg3⟩
  · go_wp2_with fail
    have hbA : ∀ cs, Below w2.heap.size w2 (w2.alloc (.cells cs 9)) := fun cs => (Below.refl _ _).alloc (Nat.le_refl _) _
    have hg2l := hg2.size
    have hN3 := fun cs => srcN g o c cp (a + 1) z 12 (w2.alloc (.cells cs 9)) (hs2.below (hbA cs)) (HC.out.grown (gr_trans hg2 (gr_below (hbA cs))) (Nat.le_refl _)) (by omega) hl (by omega) (by omega)
    refine (hN3 _).mono ?_
    rintro e w3 ⟨v3, rfl, hv3, hs3, hg3⟩
    obtain ⟨t, ht, hts⟩ := table_at (M := 12) hg3 (by omega) (show v3 < 12 by omega) (by decide)
    have hg13 := gr_trans hg2 (gr_trans (gr_below (hbA _)) hg3)
    clear hN3 hg3 hbA
    have hv4 : v3 < 12 := by omega
    go_wp2
    go_ret
    exact ⟨_, _, rfl, by omega, by omega, hs3, hg13⟩
end Go.Proofs.Ytffjgcpiamgejaa
