
/- The walks of the two AddressKey and of the two WriteBox. -/
import Derived.Test.YthgjflgidalmlaaDoorAddr
import Derived.Test.YthgjflgidalmlaaDoorLow
import Derived.Deep.QuietTactic
import Derived.BigQuiet
import Derived.Deep.RegionWith
namespace Go.Proofs.YthgjflgidalmlaaDoor
open Go.RowKit Go.Lib
theorem addrOk_sizes (n l d : ByteArray) (h : addrOk n l d = true) : n.size ≤ 200 ∧ l.size ≤ 64 ∧ d.size ≤ 255 := by
  simp only [addrOk, Bool.and_eq_true, decide_eq_true_eq, Pl.domI] at h
  obtain ⟨_, h1, _, h2, _, h3, _⟩ := h
  exact ⟨h2, h1, by simpa using h3⟩
abbrev bx (n l d : ByteArray) : Obj := .cells #[.string n, .string l, .string d] 47
theorem box_cells (n l d : ByteArray) (w w2 : World) (hb : Below (w.alloc (bx n l d)).heap.size (w.alloc (bx n l d)) w2) :
    w2.cell? ⟨w.heap.size, 0, none⟩ = some (.string n) ∧ w2.cell? ⟨w.heap.size, 1, none⟩ = some (.string l) ∧ w2.cell? ⟨w.heap.size, 2, none⟩ = some (.string d) := by
  refine ⟨(hb.cell (p := ⟨w.heap.size, 0, none⟩) (by simp)).trans ?_, (hb.cell (p := ⟨w.heap.size, 1, none⟩) (by simp)).trans ?_, (hb.cell (p := ⟨w.heap.size, 2, none⟩) (by simp)).trans ?_⟩ <;> simp
def keyT (n l d : ByteArray) : ByteArray := if addrOk n l d then l ++ ⟨#[64]⟩ ++ ⟨(lower d.data.toList).toArray⟩ else ⟨#[]⟩
set_option maxHeartbeats 1000000 in
theorem implKey (n l d : ByteArray) (m : Int) (w : World) (hn : n.size ≤ 1100000) (hl : l.size ≤ 1100000) (hd : d.size ≤ 1100000) (hm : w.cell? ⟨0, 0, none⟩ = some (.int .i64 m)) :
    Calls Tryd.prog 54 #[box3 n l d] w fun e w' => e = .returned (.string (keyT n l d)) ∧ Below w.heap.size w w' := by
  have hA := implAddress n l d m (w.alloc (bx n l d)) hn hl hd (cell_alloc _ hm)
  have hbA : Below w.heap.size w (w.alloc (bx n l d)) := (Below.refl _ _).alloc (Nat.le_refl _) _
  cases hok : addrOk n l d
  · rw [keyT, hok]
    rw [hok] at hA
    clear hm
    go_enter Tryd.func54, Tryd.ntmps54
    go_wp2_with (go_at_call 72; go_must (refine hA.mono ?_; rintro e w2 ⟨rfl, hb2⟩; simp only [dcode]))
    go_ret
    exact ⟨rfl, hbA.trans (hb2.mono hbA.size)⟩
  · obtain ⟨s0, s1, s2⟩ := addrOk_sizes n l d hok
    rw [keyT, hok]
    rw [hok] at hA
    have hL := fun w => implLowered d w (by omega)
    have hxs : (ByteArray.mk (lower d.data.toList).toArray).size ≤ 255 := by
      show (lower d.data.toList).toArray.size ≤ 255
      simp [lower]; omega
    generalize ByteArray.mk (lower d.data.toList).toArray = x at *
    clear hm hok
    go_enter Tryd.func54, Tryd.ntmps54
    go_wp2_with (go_at_call 72; go_must (refine hA.mono ?_; rintro e w2 ⟨rfl, hb2⟩; simp only [dcode]; obtain ⟨c0, c1, c2⟩ := box_cells n l d w w2 hb2; have Hc := (show Hid (∀ w3, Below w2.heap.size w2 w3 → w3.cell? ⟨w.heap.size, 1, none⟩ = some (.string l)) from fun w3 h => (box_cells n l d w w3 (hb2.trans (h.mono hb2.size))).2.1)))
    go_region_with (go_at_call 73; (refine (hL _).mono ?_; rintro e w3 ⟨rfl, hb3⟩; have c3 := Hc.out w3 (((Below.refl w2.heap.size w2).drew).trans hb3)))
    all_goals
      go_wp2
      go_ret
      exact ⟨rfl, hbA.trans ((hb2.trans ((((Below.refl w2.heap.size w2).drew).trans hb3).mono hb2.size)).mono hbA.size)⟩
set_option maxHeartbeats 1000000 in
theorem specKey (n l d : ByteArray) (w : World) (hn : n.size ≤ 1100000) (hl : l.size ≤ 1100000) (hd : d.size ≤ 1100000) :
    Calls Tryd.prog 26 #[box3 n l d] w fun e w' => e = .returned (.string (keyT n l d)) ∧ Below w.heap.size w w' := by
  have hA := specAddress n l d (w.alloc (bx n l d)) hn hl hd
  have hbA : Below w.heap.size w (w.alloc (bx n l d)) := (Below.refl _ _).alloc (Nat.le_refl _) _
  cases hok : addrOk n l d
  · rw [keyT, hok]
    rw [hok] at hA
    go_enter Tryd.func26, Tryd.ntmps26
    go_wp2_with (go_at_call 25; go_must (refine hA.mono ?_; rintro e w2 ⟨rfl, hb2⟩; simp only [dcode]))
    go_ret
    exact ⟨rfl, hbA.trans (hb2.mono hbA.size)⟩
  · obtain ⟨s0, s1, s2⟩ := addrOk_sizes n l d hok
    rw [keyT, hok]
    rw [hok] at hA
    have hL := fun w => specLower d w (by omega)
    have hxs : (ByteArray.mk (lower d.data.toList).toArray).size ≤ 255 := by
      show (lower d.data.toList).toArray.size ≤ 255
      simp [lower]; omega
    generalize ByteArray.mk (lower d.data.toList).toArray = x at *
    clear hok
    go_enter Tryd.func26, Tryd.ntmps26
    go_wp2_with (go_at_call 25; go_must (refine hA.mono ?_; rintro e w2 ⟨rfl, hb2⟩; simp only [dcode]; obtain ⟨c0, c1, c2⟩ := box_cells n l d w w2 hb2; have Hc := (show Hid (∀ w3, Below w2.heap.size w2 w3 → w3.cell? ⟨w.heap.size, 1, none⟩ = some (.string l)) from fun w3 h => (box_cells n l d w w3 (hb2.trans (h.mono hb2.size))).2.1)))
    go_region_with (go_at_call 45; (refine (hL _).mono ?_; rintro e w3 ⟨rfl, hb3⟩; have c3 := Hc.out w3 (((Below.refl w2.heap.size w2).drew).trans hb3)))
    all_goals
      go_wp2
      go_ret
      exact ⟨rfl, hbA.trans ((hb2.trans ((((Below.refl w2.heap.size w2).drew).trans hb3).mono hb2.size)).mono hbA.size)⟩
end Go.Proofs.YthgjflgidalmlaaDoor
