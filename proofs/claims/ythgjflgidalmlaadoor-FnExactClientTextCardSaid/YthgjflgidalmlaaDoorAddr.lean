
/- The walks of the two AddressFault, and of the law's own helpers. -/
import Derived.Test.YthgjflgidalmlaaDoorDomain
import Derived.Deep.QuietTactic
namespace Go.Proofs.YthgjflgidalmlaaDoor
open Go.RowKit Go.Lib
abbrev box3 (n l d : ByteArray) : Value := .agg #[.string n, .string l, .string d]
def addrOk (n l d : ByteArray) : Bool := decide (1 ≤ l.size) && (decide (l.size ≤ 64) && (l.data.toList.all Pl.tb && (decide (n.size ≤ 200) && (n.data.toList.all Pl.tb && Pl.domI d.data.toList))))
theorem implIsName (s : ByteArray) (w : World) (hs : s.size ≤ 1100000) :
    Calls Tryd.prog 84 #[.string s] w fun e w' => e = .returned (.bool (decide (s.size ≤ 200) && s.data.toList.all Pl.tb)) ∧ w = w' := by
  by_cases hn : s.size ≤ 200
  · have ha := implAllOf kindText s w hs
    rw [decide_eq_true hn, Bool.true_and]
    generalize s.data.toList.all Pl.tb = b at *
    go_enter Tryd.func84, Tryd.ntmps84
    go_wp2_with (go_at_call 47; go_must (refine ha.mono ?_; rintro e w2 ⟨rfl, rfl⟩))
    go_ret
    exact ⟨rfl, rfl⟩
  · rw [decide_eq_false hn, Bool.false_and]
    go_enter Tryd.func84, Tryd.ntmps84
    go_wp2
    go_ret
    exact ⟨rfl, rfl⟩
theorem specIsName (s : ByteArray) (w : World) (hs : s.size ≤ 1100000) :
    Calls Tryd.prog 44 #[.string s] w fun e w' => e = .returned (.bool (decide (s.size ≤ 200) && s.data.toList.all Pl.tb)) ∧ w = w' := by
  by_cases hn : s.size ≤ 200
  · have ha := specClean s w hs
    rw [decide_eq_true hn, Bool.true_and]
    generalize s.data.toList.all Pl.tb = b at *
    go_enter Tryd.func44, Tryd.ntmps44
    go_wp2_with (go_at_call 43; go_must (refine ha.mono ?_; rintro e w2 ⟨rfl, rfl⟩))
    go_ret
    exact ⟨rfl, rfl⟩
  · rw [decide_eq_false hn, Bool.false_and]
    go_enter Tryd.func44, Tryd.ntmps44
    go_wp2
    go_ret
    exact ⟨rfl, rfl⟩
theorem isEmpty_of (q : ByteArray) (h0 : q.size = 0) : q.toList.isEmpty = true := by
  rw [ByteArray.toList_eq, List.isEmpty_iff]
  exact List.length_eq_zero_iff.1 (by rw [Pl.len_list]; exact h0)
theorem isEmpty_ne (q : ByteArray) (h0 : ¬ q.size = 0) : q.toList.isEmpty = false := by
  rw [ByteArray.toList_eq, List.isEmpty_eq_false_iff]
  intro e
  exact h0 (by rw [← Pl.len_list, e]; rfl)
theorem cell_alloc {w : World} {v : Value} {a : Addr} (b : Obj) (h : w.cell? a = some v) : (w.alloc b).cell? a = some v := by
  have hb : Below w.heap.size w (w.alloc b) := (Below.refl _ _).alloc (Nat.le_refl _) _
  exact (hb.cell (bcell_lt h)).trans h
set_option maxHeartbeats 1000000 in
theorem implAddress (n l d : ByteArray) (m : Int) (w : World) (hn : n.size ≤ 1100000) (hl : l.size ≤ 1100000) (hd : d.size ≤ 1100000) (hm : w.cell? ⟨0, 0, none⟩ = some (.int .i64 m)) :
    Calls Tryd.prog 72 #[box3 n l d] w fun e w' => e = .returned (.int .i64 (dcode (addrOk n l d))) ∧ Below w.heap.size w w' := by
  have hN := fun w => implIsName n w hn
  have hA := fun w => implAllOf kindText l w hl
  have hD := fun w hm => implDomain d m w hd hm
  have hm' := fun b => cell_alloc b hm
  have hbA : ∀ b, Below w.heap.size w (w.alloc b) := fun b => (Below.refl _ _).alloc (Nat.le_refl _) _
  unfold addrOk
  generalize Pl.domI d.data.toList = b3 at *
  by_cases h0 : l.size = 0
  · have hE := isEmpty_of l h0
    rw [decide_eq_false (by omega), Bool.false_and]
    clear hD hm hm'
    go_enter Tryd.func72, Tryd.ntmps72
    go_wp2
    go_ret
    exact ⟨rfl, hbA _⟩
  have hE := isEmpty_ne l h0
  rw [decide_eq_true (by omega), Bool.true_and]
  by_cases h1 : 64 < l.size
  · rw [decide_eq_false (by omega), Bool.false_and]
    clear hD hm hm'
    go_enter Tryd.func72, Tryd.ntmps72
    go_wp2
    go_ret
    exact ⟨rfl, hbA _⟩
  rw [decide_eq_true (by omega), Bool.true_and]
  generalize l.data.toList.all Pl.tb = b1 at *
  rw [← Bool.and_assoc (decide (n.size ≤ 200))]
  generalize (decide (n.size ≤ 200) && n.data.toList.all Pl.tb) = b2 at *
  have HD := (show Hid _ from hD)
  have HM := (show Hid _ from hm')
  clear hD hm hm'
  cases b1
  · go_enter Tryd.func72, Tryd.ntmps72
    go_wp2_with (go_at_call 47; go_must (refine (hA _).mono ?_; rintro e w2 ⟨rfl, rfl⟩))
    go_ret
    exact ⟨rfl, hbA _⟩
  cases b2
  · go_enter Tryd.func72, Tryd.ntmps72
    go_wp2_with first | (go_at_call 47; go_must (refine (hA _).mono ?_; rintro e w2 ⟨rfl, rfl⟩)) | (go_at_call 84; go_must (refine (hN _).mono ?_; rintro e w2 ⟨rfl, rfl⟩))
    go_ret
    exact ⟨rfl, hbA _⟩
  · go_enter Tryd.func72, Tryd.ntmps72
    go_wp2_with first | (go_at_call 47; go_must (refine (hA _).mono ?_; rintro e w2 ⟨rfl, rfl⟩)) | (go_at_call 84; go_must (refine (hN _).mono ?_; rintro e w2 ⟨rfl, rfl⟩)) | (go_at_call 15; go_must (refine (HD.out _ (HM.out _)).mono ?_; rintro e w3 ⟨rfl, hb3⟩))
    go_ret
    exact ⟨rfl, (hbA _).trans (hb3.mono (hbA _).size)⟩
set_option maxHeartbeats 1000000 in
theorem specAddress (n l d : ByteArray) (w : World) (hn : n.size ≤ 1100000) (hl : l.size ≤ 1100000) (hd : d.size ≤ 1100000) :
    Calls Tryd.prog 25 #[box3 n l d] w fun e w' => e = .returned (.int .i64 (dcode (addrOk n l d))) ∧ Below w.heap.size w w' := by
  have hN := fun w => specIsName n w hn
  have hA := fun w => specClean l w hl
  have hD := fun w => specDomain d w hd
  have hbA : ∀ b, Below w.heap.size w (w.alloc b) := fun b => (Below.refl _ _).alloc (Nat.le_refl _) _
  unfold addrOk
  generalize Pl.domI d.data.toList = b3 at *
  by_cases h0 : l.size = 0
  · rw [decide_eq_false (by omega), Bool.false_and]
    go_enter Tryd.func25, Tryd.ntmps25
    go_wp2
    go_ret
    exact ⟨rfl, hbA _⟩
  rw [decide_eq_true (by omega), Bool.true_and]
  by_cases h1 : 64 < l.size
  · rw [decide_eq_false (by omega), Bool.false_and]
    go_enter Tryd.func25, Tryd.ntmps25
    go_wp2
    go_ret
    exact ⟨rfl, hbA _⟩
  rw [decide_eq_true (by omega), Bool.true_and]
  generalize l.data.toList.all Pl.tb = b1 at *
  rw [← Bool.and_assoc (decide (n.size ≤ 200))]
  generalize (decide (n.size ≤ 200) && n.data.toList.all Pl.tb) = b2 at *
  cases b1
  · go_enter Tryd.func25, Tryd.ntmps25
    go_wp2_with (go_at_call 43; go_must (refine (hA _).mono ?_; rintro e w2 ⟨rfl, rfl⟩))
    go_ret
    exact ⟨rfl, hbA _⟩
  have hcell : ∀ (b : TypeId) (w3 : World), Below (w.alloc (.cells #[.string n, .string l, .string d] b)).heap.size (w.alloc (.cells #[.string n, .string l, .string d] b)) w3 → w3.cell? ⟨w.heap.size, 0, none⟩ = some (.string n) := by
    intro b w3 hb
    refine (hb.cell (p := ⟨w.heap.size, 0, none⟩) (by simp)).trans ?_
    simp
  cases b3
  all_goals
    cases b2
    all_goals
      go_enter Tryd.func25, Tryd.ntmps25
      go_wp2_with first | (go_at_call 43; go_must (refine (hA _).mono ?_; rintro e w2 ⟨rfl, rfl⟩)) | (go_at_call 10; go_must (refine (hD _).mono ?_; rintro e w3 ⟨rfl, hb3⟩; have hc3 := hcell _ _ hb3; simp only [dcode])) | (go_at_call 44; go_must (refine (hN _).mono ?_; rintro e w4 ⟨rfl, rfl⟩))
      go_ret
      exact ⟨rfl, (hbA _).trans (hb3.mono (hbA _).size)⟩
end Go.Proofs.YthgjflgidalmlaaDoor
