/- The program's StoreFault. -/
import Derived.Test.YtbepjjnjdhkcbaaDoorStStore2
namespace Go.Proofs.YtbepjjnjdhkcbaaDoor
open Go.RowKit Go.Lib Go.Maps
set_option maxRecDepth 20000 in
theorem implStoreFault (n : GStore) (v1 : Value) (lo : Nat) (mx : Int) (w : World) (hm : w.cell? ⟨0, 0, none⟩ = some (.int .i64 mx)) (hI : GStoreIn lo w.heap.size w n v1) (hf : n.fits 1048576) :
    Calls Tryd.prog 7 #[GStoreV n v1] w fun e w' => e = .returned (.int .i64 (plStoreFault n)) ∧ Below w.heap.size w w' := by
  have HI := mkHid hI
  have hm0 := bcell_ltS hm
  obtain ⟨⟨a1, c1, rfl, -⟩⟩ := hI
  obtain ⟨W, hW⟩ : ∃ W, W = w.alloc (.cells #[.int .i64 n.nextValidity, .slice a1 n.boxes.length c1] 29) := ⟨_, rfl⟩
  have hbA : Below w.heap.size w W := by rw [hW]; exact (Below.refl _ _).alloc (Nat.le_refl _) _
  have c0 := mkHid (implStore n _ lo mx w hm HI.out hf)
  have cW := mkHid (implStore n _ lo mx W ((hbA.cell (p := ⟨0, 0, none⟩) hm0).trans hm) ((HI.out.same (Same.of_below hbA (Nat.le_refl _))).mono (Nat.le_refl _) hbA.size) hf)
  have HW := mkHid hW
  have HbA := mkHid hbA
  clear hW hbA HI hf hm
  unfold plStoreFault
  unfold GStoreV at c0 cW ⊢
  generalize St.okStore n = z at *
  go_enter Tryd.func7, Tryd.ntmps7
  go_wp2_with (go_at_call 16; fail)
  first
  | (refine c0.out.mono ?_
     rintro e w1 ⟨rfl, hb⟩
     have cF := mkHid (implForm z w1)
     clear c0 cW
     go_wp2_with (go_at_call 15; fail)
     refine cF.out.mono ?_
     rintro e w2 ⟨rfl, rfl⟩
     go_wp2
     go_ret
     exact ⟨rfl, hb⟩)
  | (rw [← HW.out]
     refine cW.out.mono ?_
     rintro e w1 ⟨rfl, hb⟩
     have hbe := mkHid (HbA.out.trans (hb.mono HbA.out.size))
     have cF := mkHid (implForm z w1)
     clear c0 cW hb
     go_wp2_with (go_at_call 15; fail)
     refine cF.out.mono ?_
     rintro e w2 ⟨rfl, rfl⟩
     go_wp2
     go_ret
     exact ⟨rfl, hbe.out⟩)
end Go.Proofs.YtbepjjnjdhkcbaaDoor
