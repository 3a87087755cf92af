
/- The program's Bounce. -/
import Derived.Test.YtnchmfghmbgldaaDoorSpecBounce
import Derived.Test.YtnchmfghmbgldaaDoorImplKeyFault
import Derived.Test.YtnchmfghmbgldaaDoorImplWriteHead
namespace Go.Proofs.YtnchmfghmbgldaaDoor
open Go.RowKit Go.Lib Go.Maps
set_option maxHeartbeats 4000000 in
theorem implBounce (l t m : ByteArray) (mx : Int) (w : World) (hl : l.size ≤ 1048576) (ht : t.size ≤ 1048576) (hm : m.size ≤ 1048576) (hx : w.cell? ⟨0, 0, none⟩ = some (.int .i64 mx)) :
    Calls Tryd.prog 5 #[.string l, .string t, .string m] w fun e w' => e = .returned (.string (plBounce l t m)) ∧ Below w.heap.size w w' := by
  have hlt := bcell_lt hx
  have cD := mkHid (implDomainName l mx w (by omega) hx)
  have cK := mkHid (fun (w : World) (hm : w.cell? ⟨0, 0, none⟩ = some (.int .i64 mx)) => implIsKey t mx w ht hm)
  have cT := mkHid (fun w => implTooLong m w (by omega))
  have Hx := mkHid hx
  clear hx
  obtain ⟨R, hR⟩ : ∃ R, plBounce l t m = R := ⟨_, rfl⟩
  rw [hR]
  replace hR := mkHid hR
  cases x1 : Ky.dok l
  · rw [x1] at cD
    have hr : Hid (R = ⟨#[]⟩) := show _ = _ from by rw [← hR.out, plBounce, Ky.bok, x1]; rfl
    clear x1
    go_enter Tryd.func5, Tryd.ntmps5
    go_wp2_with first | (go_at_call 9; go_must (refine cD.out.mono ?_; rintro e w1 ⟨rfl, hb1⟩))
    go_ret
    rw [hr.out]
    exact ⟨rfl, hb1⟩
  rw [x1] at cD
  cases x2 : Ky.ok t
  · rw [x2] at cK
    have hr : Hid (R = ⟨#[]⟩) := show _ = _ from by rw [← hR.out, plBounce, Ky.bok, x1, x2]; rfl
    clear x1 x2
    go_enter Tryd.func5, Tryd.ntmps5
    go_wp2_with first | (go_at_call 9; go_must (refine cD.out.mono ?_; rintro e w1 ⟨rfl, hb1⟩)) | (go_at_call 10; go_must (refine (cK.out _ ((hb1.cell hlt).trans Hx.out)).mono ?_; rintro e w2 ⟨rfl, hb2⟩))
    go_ret
    rw [hr.out]
    exact ⟨rfl, hb1.trans (hb2.mono hb1.size)⟩
  rw [x2] at cK
  by_cases x3 : m.size ≤ 100000
  · have y3 : decide ((100000 : Int) < (m.size : Int)) = false := by simp; omega
    rw [y3] at cT
    have hr : Hid (R = Ky.hdT (Ky.bF l t) ++ ⟨#[13, 10]⟩ ++ m.extract 0 2000) := show _ = _ from by rw [← hR.out, plBounce, Ky.bok, x1, x2, decide_eq_true x3]; rfl
    have hl2 := Ky.dok_le l x1
    have ht2 := Ky.ok_le t x2
    obtain ⟨u1, hu1⟩ : ∃ u, (⟨#[32, 60, 109, 97, 105, 108, 101, 114, 64]⟩ : ByteArray) ++ l ++ ⟨#[62]⟩ = u := ⟨_, rfl⟩
    obtain ⟨u2, hu2⟩ : ∃ u, (⟨#[32, 60]⟩ : ByteArray) ++ t ++ ⟨#[62]⟩ = u := ⟨_, rfl⟩
    have cW : Hid (∀ W : World, Calls Tryd.prog 12 #[.slice (some ⟨W.heap.size, 0, none⟩) 3 3] (W.alloc (.cells #[.string ⟨#[70, 114, 111, 109]⟩, .string u1, .string ⟨#[84, 111]⟩, .string u2, .string ⟨#[83, 117, 98, 106, 101, 99, 116]⟩, .string ⟨#[32, 85, 110, 100, 101, 108, 105, 118, 101, 114, 101, 100]⟩] 28)) fun e w' => e = .returned (.string (Ky.hdT (Ky.bF l t))) ∧ Below W.heap.size W w') := fun W => (implWriteHead (some ⟨W.heap.size, 0, none⟩) (Ky.bF l t) 3 (W.alloc (.cells #[.string ⟨#[70, 114, 111, 109]⟩, .string u1, .string ⟨#[84, 111]⟩, .string u2, .string ⟨#[83, 117, 98, 106, 101, 99, 116]⟩, .string ⟨#[32, 85, 110, 100, 101, 108, 105, 118, 101, 114, 101, 100]⟩] 28)) (fld_three _ l t _ u1 u2 hu1.symm hu2.symm (hp_allocK W _)) (show 3 ≤ 200 by decide) (bF_size l t hl2 ht2)).mono fun e w' ⟨h1, h2⟩ => ⟨h1, ((Below.refl W.heap.size W).alloc (Nat.le_refl _) _).trans (h2.mono (by simp))⟩
    have hHs := Ky.hdT_size (Ky.bF l t)
    generalize Ky.hdT (Ky.bF l t) = H at *
    have hu1s : (⟨#[32, 60, 109, 97, 105, 108, 101, 114, 64]⟩ : ByteArray).size = 9 := rfl
    clear x1 x2 hR
    by_cases x4 : m.size ≤ 2000
    · have e4 : m.extract 0 m.size = m := by simp
      rw [Ky.short m x4] at hr
      have y4 : min (m.size : Int) 2000 = (m.size : Int) := by omega
      go_enter Tryd.func5, Tryd.ntmps5
      go_wp2_with first | (go_at_call 9; go_must (refine cD.out.mono ?_; rintro e w1 ⟨rfl, hb1⟩)) | (go_at_call 10; go_must (refine (cK.out _ ((hb1.cell hlt).trans Hx.out)).mono ?_; rintro e w2 ⟨rfl, hb2⟩)) | (go_at_call 11; go_must (refine (cT.out _).mono ?_; rintro e w4 ⟨rfl, rfl⟩)) | (go_at_call 12; go_must (refine (cW.out _).mono ?_; rintro e w3 ⟨rfl, hb3⟩))
      go_ret
      rw [hr.out]
      exact ⟨rfl, (hb1.trans (hb2.mono hb1.size)).trans (hb3.mono (Nat.le_trans hb1.size hb2.size))⟩
    · have y4 : min (m.size : Int) 2000 = 2000 := by omega
      have f4 : (2000 : Int) ≤ (m.size : Int) := by omega
      have hms : (m.extract 0 2000).size ≤ 2000 := by rw [ByteArray.size_extract]; omega
      go_enter Tryd.func5, Tryd.ntmps5
      go_wp2_with first | (go_at_call 9; go_must (refine cD.out.mono ?_; rintro e w1 ⟨rfl, hb1⟩)) | (go_at_call 10; go_must (refine (cK.out _ ((hb1.cell hlt).trans Hx.out)).mono ?_; rintro e w2 ⟨rfl, hb2⟩)) | (go_at_call 11; go_must (refine (cT.out _).mono ?_; rintro e w4 ⟨rfl, rfl⟩)) | (go_at_call 12; go_must (refine (cW.out _).mono ?_; rintro e w3 ⟨rfl, hb3⟩))
      go_ret
      rw [hr.out]
      exact ⟨rfl, (hb1.trans (hb2.mono hb1.size)).trans (hb3.mono (Nat.le_trans hb1.size hb2.size))⟩
  · have y3 : decide ((100000 : Int) < (m.size : Int)) = true := by simp; omega
    rw [y3] at cT
    have hr : Hid (R = ⟨#[]⟩) := show _ = _ from by rw [← hR.out, plBounce, Ky.bok, x1, x2, decide_eq_false x3]; rfl
    clear x1 x2 hR
    go_enter Tryd.func5, Tryd.ntmps5
    go_wp2_with first | (go_at_call 9; go_must (refine cD.out.mono ?_; rintro e w1 ⟨rfl, hb1⟩)) | (go_at_call 10; go_must (refine (cK.out _ ((hb1.cell hlt).trans Hx.out)).mono ?_; rintro e w2 ⟨rfl, hb2⟩)) | (go_at_call 11; go_must (refine (cT.out _).mono ?_; rintro e w4 ⟨rfl, rfl⟩))
    go_ret
    rw [hr.out]
    exact ⟨rfl, hb1.trans (hb2.mono hb1.size)⟩
end Go.Proofs.YtnchmfghmbgldaaDoor
