
/- A list of fields copied: slices.Clone. -/
import Derived.Test.YtgabjiamabbheaaGreatDoorClone
import Derived.Test.YtgabjiamabbheaaGreatDoorOwnF
import Derived.Test.YtgabjiamabbheaaGreatDoorFields
namespace Go.Proofs.YtgabjiamabbheaaGreatDoor
open Go.RowKit Go.Lib
set_option maxRecDepth 20000 in
theorem cellsF_one (F : List Fl) : ∀ u ∈ cellsF F, u.oneCell' = true := by
  intro u hu
  unfold cellsF at hu
  obtain ⟨f, -, hf⟩ := List.mem_flatMap.1 hu
  rcases List.mem_cons.1 hf with rfl | hf
  · rfl
  · obtain rfl := List.mem_singleton.1 hf
    rfl
set_option maxRecDepth 20000 in
theorem implClone (B : Nat) (v : Value) (F : List Fl) (w : World) (h : OwnF B v F w) (hl : F.length ≤ 1000000) :
    Calls Tryz.prog 64 #[v] w fun e w' => ∃ v', e = .returned v' ∧ OwnF w.heap.size v' F w' ∧ Below w.heap.size w w' := by
  rcases h.form with ⟨rfl, rfl⟩ | ⟨g, cap, rfl⟩
  · refine (AnyE.slices_Clone_nil Tryz.cloneFd 0 0 w).mono ?_
    rintro e w' ⟨rfl, rfl⟩
    exact ⟨_, rfl, OwnF.nil _ _, Below.refl _ _⟩
  · obtain ⟨i0, hi, hy0, hy1, hy2⟩ := info_parts Tryz.info43
    refine (AnyE.slices_Clone Tryz.cloneFd i0 _ 2 32 hi hy0 hy1 hy2 rfl (by decide) Tryz.sizeOf51 g 0 F.length cap (cellsF F) w (cellsF_len F) (by unfold maxLen; omega) (by omega) ?_ (cellsF_one F)).mono ?_
    · intro j u hu
      have := World.ownsRow.cells h (g := g) rfl j u hu
      rw [add_off] at this
      rw [Nat.zero_add]
      exact this
    · rintro e w' ⟨v', rfl, ho, -, hb⟩
      exact ⟨v', rfl, ho, hb⟩
end Go.Proofs.YtgabjiamabbheaaGreatDoor
