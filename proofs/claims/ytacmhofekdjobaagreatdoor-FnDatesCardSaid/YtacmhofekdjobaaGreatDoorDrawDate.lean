
/- The draws of a time and of a zone. -/
import Derived.Test.YtacmhofekdjobaaGreatDoorDraw
namespace Go.Proofs.YtacmhofekdjobaaGreatDoor
open Go.RowKit Go.Lib
def intOk (v : Value) : Bool := match v with | .int .i64 n => decide (-2000 ≤ n) && decide (n ≤ 253402300800) | _ => false
set_option maxRecDepth 20000 in
theorem table_int {w w3 : World} {cs : Array Value} {g v : Nat} (hg : (w.alloc (.cells cs 2)).grownBy w3 (some g)) (hgl : g < w.heap.size) (hv : v < cs.size) (hcs : cs.toList.all intOk = true) :
    ∃ t : Int, w3.cell? ⟨w.heap.size, v, none⟩ = some (.int .i64 t) := by
  have hm : intOk cs[v] = true := List.all_eq_true.1 hcs _ (Array.mem_toList_iff.2 (Array.getElem_mem hv))
  have hc : (w.alloc (.cells cs 2)).cell? ⟨w.heap.size, v, none⟩ = some cs[v] := by simp [hv]
  have h3 := gr_cell hg (show w.heap.size ≠ g by omega) hc
  cases hx : cs[v] with
  | int k t =>
    rw [hx] at h3 hm
    cases k <;> first | exact ⟨t, h3⟩ | (exact absurd hm (by simp [intOk]))
  | _ => rw [hx] at hm; cases hm
set_option maxRecDepth 20000 in
set_option maxHeartbeats 2000000 in
theorem srcTime (g : Nat) (o : Option Addr) (c : List UInt8) (cp a z : Nat) (w : World) (h : Src w g o c.length cp a z) (hc : Code g w o c) (ha : a ≤ 800000) (hl : c.length ≤ 1048576) :
    Calls Tryz.prog 11 #[.pointer (some ⟨g, 0, none⟩)] w fun e w' => ∃ (t : Int) (a' : Nat), e = .returned (.int .i64 t) ∧ a' ≤ a + 10 ∧ Src w' g o c.length cp a' z ∧ w.grownBy w' (some g) := by
  have HC : Hid (Code g w o c) := hc
  have hO := srcN g o c cp a z 6 w h hc (by omega) hl (by omega) (by omega)
  have hgl := h.lt
  clear h hc
  go_enter Tryz.func11, Tryz.ntmps11
  go_wp2_with fail
  refine hO.mono ?_
  rintro e w2 ⟨v, rfl, hv, hs2, hg2⟩
  clear hO
  have hg2l := hg2.size
  by_cases v0 : v = 0
  · subst v0
    go_wp2_with fail
    have hbA : ∀ cs, Below w2.heap.size w2 (w2.alloc (.cells cs 2)) := fun cs => (Below.refl _ _).alloc (Nat.le_refl _) _
    have hN3 := fun cs => srcN g o c cp (a + 1) z 8 (w2.alloc (.cells cs 2)) (hs2.below (hbA cs)) (HC.out.grown (gr_trans hg2 (gr_below (hbA cs))) (Nat.le_refl _)) (by omega) hl (by omega) (by omega)
    refine (hN3 _).mono ?_
    rintro e w3 ⟨v3, rfl, hv3, hs3, hg3⟩
    obtain ⟨t, ht⟩ := table_int hg3 (by omega) (show v3 < 8 by omega) (by decide)
    have hg13 := gr_trans hg2 (gr_trans (gr_below (hbA _)) hg3)
    clear hN3 hg3 hbA
    have hv4 : v3 < 8 := by omega
    go_wp2
    go_ret
    exact ⟨_, _, rfl, by omega, hs3, hg13⟩
  · have b0 : ((v : Int) == 0) = false := by simp; omega
    by_cases v1 : v = 1
    · subst v1
      have hN3 := srcN g o c cp (a + 1) z 20000 w2 hs2 (HC.out.grown hg2 (Nat.le_refl _)) (by omega) hl (by omega) (by omega)
      go_wp2_with fail
      refine hN3.mono ?_
      rintro e w3 ⟨v3, rfl, hv3, hs3, hg3⟩
      clear hN3
      go_wp2
      go_ret
      exact ⟨_, _, rfl, by omega, hs3, gr_trans hg2 hg3⟩
    · have b1 : ((v : Int) == 1) = false := by simp; omega
      have hN3 := srcN g o c cp (a + 1) z 900000000 w2 hs2 (HC.out.grown hg2 (Nat.le_refl _)) (by omega) hl (by omega) (by omega)
      clear v0 v1
      go_wp2_with fail
      refine hN3.mono ?_
      rintro e w3 ⟨v3, rfl, hv3, hs3, hg3⟩
      clear hN3
      go_wp2
      go_ret
      exact ⟨_, _, rfl, by omega, hs3, gr_trans hg2 hg3⟩
set_option maxRecDepth 20000 in
set_option maxHeartbeats 2000000 in
theorem srcZone (g : Nat) (o : Option Addr) (c : List UInt8) (cp a z : Nat) (w : World) (h : Src w g o c.length cp a z) (hc : Code g w o c) (ha : a ≤ 800000) (hl : c.length ≤ 1048576) :
    Calls Tryz.prog 12 #[.pointer (some ⟨g, 0, none⟩)] w fun e w' => ∃ (t : Int) (a' : Nat), e = .returned (.int .i64 t) ∧ a' ≤ a + 10 ∧ Src w' g o c.length cp a' z ∧ w.grownBy w' (some g) := by
  have HC : Hid (Code g w o c) := hc
  have hO := srcOne g o c cp a z 5 w h hc (by omega) hl (by omega) (by omega)
  have hgl := h.lt
  clear h hc
  go_enter Tryz.func12, Tryz.ntmps12
  go_wp2_with fail
  refine hO.mono ?_
  rintro e w2 ⟨b, rfl, hs2, hg2⟩
  clear hO
  have hg2l := hg2.size
  cases b
  · have hN3 := srcN g o c cp (a + 1) z 49 w2 hs2 (HC.out.grown hg2 (Nat.le_refl _)) (by omega) hl (by omega) (by omega)
    go_wp2_with fail
    refine hN3.mono ?_
    rintro e w3 ⟨v3, rfl, hv3, hs3, hg3⟩
    clear hN3
    go_wp2
    go_ret
    exact ⟨_, _, rfl, by omega, hs3, gr_trans hg2 hg3⟩
  · go_wp2_with fail
    have hbA : ∀ cs, Below w2.heap.size w2 (w2.alloc (.cells cs 2)) := fun cs => (Below.refl _ _).alloc (Nat.le_refl _) _
    have hN3 := fun cs => srcN g o c cp (a + 1) z 6 (w2.alloc (.cells cs 2)) (hs2.below (hbA cs)) (HC.out.grown (gr_trans hg2 (gr_below (hbA cs))) (Nat.le_refl _)) (by omega) hl (by omega) (by omega)
    refine (hN3 _).mono ?_
    rintro e w3 ⟨v3, rfl, hv3, hs3, hg3⟩
    obtain ⟨t, ht⟩ := table_int hg3 (by omega) (show v3 < 6 by omega) (by decide)
    have hg13 := gr_trans hg2 (gr_trans (gr_below (hbA _)) hg3)
    clear hN3 hg3 hbA
    have hv4 : v3 < 6 := by omega
    go_wp2
    go_ret
    exact ⟨_, _, rfl, by omega, hs3, hg13⟩
set_option maxRecDepth 20000 in
set_option maxHeartbeats 2000000 in
theorem drawDate (o : Option Addr) (c : List UInt8) (cp : Nat) (w : World) (hc : Code w.heap.size w o c) (hl : c.length ≤ 1048576) :
    Calls Tryz.prog 4 #[.slice o c.length cp] w fun e w' => ∃ x z : Int, e = .returned (.tuple #[.int .i64 x, .int .i64 z]) ∧ Below w.heap.size w w' := by
  have hN := srcNew o c.length cp w hl
  have HC : Hid (Code w.heap.size w o c) := hc
  clear hc
  go_enter Tryz.func4, Tryz.ntmps4
  go_wp2_with fail
  refine hN.mono ?_
  rintro e w1 ⟨z0, rfl, hz0, hs1, hb1⟩
  clear hN
  have hc1 : Code w.heap.size w1 o c := HC.out.grown (g := w.heap.size) (gr_below hb1) (Nat.le_refl _)
  have hT := srcTime w.heap.size o c cp 0 z0 w1 hs1 hc1 (by omega) hl
  go_wp2_with fail
  refine hT.mono ?_
  rintro e w2 ⟨t, a2, rfl, ha2, hs2, hg2⟩
  clear hT
  have hZ := srcZone w.heap.size o c cp a2 z0 w2 hs2 (hc1.grown hg2 (Nat.le_refl _)) (by omega) hl
  go_wp2_with fail
  refine hZ.mono ?_
  rintro e w3 ⟨u, a3, rfl, ha3, hs3, hg3⟩
  clear hZ
  go_wp2
  go_ret2
  exact ⟨_, _, rfl, hb1.grown (gr_trans hg2 hg3) hb1.size (fun j hj => by cases hj; exact Nat.le_refl _)⟩
end Go.Proofs.YtacmhofekdjobaaGreatDoor
