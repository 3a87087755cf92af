/- The law on StoreStart: the marks on a list of one box, the walk. -/
import Derived.Test.YtlkjmgjcofijfaaStartSpec
namespace Go.Proofs.Ytlkjmgjcofijfaa
open Go.RowKit Go.Lib Go.Maps
def m1T : ByteArray := ⟨(Pl.mark 1).toArray⟩
theorem BoxRow.cells {w : World} {g : Nat} {nm : ByteArray} {a b c : Int} (h : BoxRow w g nm a b c) :
    w.cell? ⟨g, 0, none⟩ = some (.string nm) ∧ w.cell? ⟨g, 1, none⟩ = some (.int .i64 a) ∧ w.cell? ⟨g, 2, none⟩ = some (.int .i64 b) ∧ w.cell? ⟨g, 3, none⟩ = some (.int .i64 c) ∧ w.cell? ⟨g, 4, none⟩ = some (.slice none 0 0) ∧ w.cell? ⟨g, 5, none⟩ = some (.slice none 0 0) := by
  unfold BoxRow at h
  refine ⟨?_, ?_, ?_, ?_, ?_, ?_⟩ <;> simp [World.cell?, h]
theorem BoxRow.frozen {w : World} {g : Nat} {nm : ByteArray} {a b c : Int} (h : BoxRow w g nm a b c) (j : Nat) : w.frozen? ⟨g, j, none⟩ = false := by
  unfold BoxRow at h
  simp [World.frozen?, h]
theorem BoxRow.set0 {w : World} {g : Nat} {nm : ByteArray} {a b c : Int} (h : BoxRow w g nm a b c) (x : ByteArray) : BoxRow (w.setCell ⟨g, 0, none⟩ (.string x)) g x a b c := by
  unfold BoxRow at *
  simp [World.setCell, Array.getElem?_modify, h]
theorem BoxRow.set1 {w : World} {g : Nat} {nm : ByteArray} {a b c : Int} (h : BoxRow w g nm a b c) (x : Int) : BoxRow (w.setCell ⟨g, 1, none⟩ (.int .i64 x)) g nm x b c := by
  unfold BoxRow at *
  simp [World.setCell, Array.getElem?_modify, h]
theorem BoxRow.set2 {w : World} {g : Nat} {nm : ByteArray} {a b c : Int} (h : BoxRow w g nm a b c) (x : Int) : BoxRow (w.setCell ⟨g, 2, none⟩ (.int .i64 x)) g nm a x c := by
  unfold BoxRow at *
  simp [World.setCell, Array.getElem?_modify, h]
theorem BoxRow.set3 {w : World} {g : Nat} {nm : ByteArray} {a b c : Int} (h : BoxRow w g nm a b c) (x : Int) : BoxRow (w.setCell ⟨g, 3, none⟩ (.int .i64 x)) g nm a b x := by
  unfold BoxRow at *
  simp [World.setCell, Array.getElem?_modify, h]
theorem markNilMail (k : Int) (w : World) : Calls Try.prog 14 #[.slice none 0 0, .int .i64 k] w fun e w' => e = .returned (.int .i64 k) ∧ w = w' := by
  go_enter Try.func14, Try.ntmps14
  go_wp2
  go_loopw [1, 5] (fun m i wr => m = .int .i64 k ∧ i = .int .i64 0 ∧ wr = w) (fun _ _ _ => 0)
  case atStart => exact ⟨rfl, rfl, rfl⟩
  case round =>
    obtain ⟨rfl, rfl, rfl⟩ := hrel
    go_wp2
    go_ret
    exact ⟨rfl, rfl⟩
theorem markNilGone (k : Int) (w : World) : Calls Try.prog 15 #[.slice none 0 0, .int .i64 k] w fun e w' => e = .returned (.int .i64 k) ∧ w = w' := by
  go_enter Try.func15, Try.ntmps15
  go_wp2
  go_loopw [1, 5] (fun m i wr => m = .int .i64 k ∧ i = .int .i64 0 ∧ wr = w) (fun _ _ _ => 0)
  case atStart => exact ⟨rfl, rfl, rfl⟩
  case round =>
    obtain ⟨rfl, rfl, rfl⟩ := hrel
    go_wp2
    go_ret
    exact ⟨rfl, rfl⟩
theorem heldNilMail (k : Int) (w : World) : Calls Try.prog 16 #[.slice none 0 0, .int .i64 k] w fun e w' => e = .returned (.int .i64 k) ∧ w = w' := by
  go_enter Try.func16, Try.ntmps16
  go_wp2
  go_loopw [1, 5] (fun m i wr => m = .int .i64 k ∧ i = .int .i64 0 ∧ wr = w) (fun _ _ _ => 0)
  case atStart => exact ⟨rfl, rfl, rfl⟩
  case round =>
    obtain ⟨rfl, rfl, rfl⟩ := hrel
    go_wp2
    go_ret
    exact ⟨rfl, rfl⟩
theorem heldNilGone (k : Int) (w : World) : Calls Try.prog 17 #[.slice none 0 0, .int .i64 k] w fun e w' => e = .returned (.int .i64 k) ∧ w = w' := by
  go_enter Try.func17, Try.ntmps17
  go_wp2
  go_loopw [1, 5] (fun m i wr => m = .int .i64 k ∧ i = .int .i64 0 ∧ wr = w) (fun _ _ _ => 0)
  case atStart => exact ⟨rfl, rfl, rfl⟩
  case round =>
    obtain ⟨rfl, rfl, rfl⟩ := hrel
    go_wp2
    go_ret
    exact ⟨rfl, rfl⟩
set_option maxHeartbeats 1000000 in
theorem markOne (g : Nat) (nm : ByteArray) (a b c : Int) (w : World) (h : BoxRow w g nm a b c) :
    Calls Try.prog 10 #[.slice (some ⟨g, 0, none⟩) 1 1, .int .i64 1] w fun e w' => e = .returned (.int .i64 5) ∧ Hid (BoxRow w' g m1T 2 3 4) ∧ Hid (w.grownBy w' (some g)) := by
  have H := mkHid h
  clear h
  have cT0 := mkHid (fun w => show Calls Try.prog 13 #[.int .i64 1] w fun e w' => e = .returned (.string m1T) ∧ Below w.heap.size w w' from markText 1 w (by decide) (by decide))
  generalize m1T = mt at *
  go_enter Try.func10, Try.ntmps10
  go_wp2
  go_loopw [1, 5] (fun m i wr => (m = .int .i64 1 ∧ i = .int .i64 0 ∧ wr = w) ∨ (m = .int .i64 5 ∧ i = .int .i64 1 ∧ Hid (BoxRow wr g mt 2 3 4) ∧ Hid (w.grownBy wr (some g)))) (fun _ i _ => 1 - (Lib.intOf i).toNat)
  case atStart => exact .inl ⟨rfl, rfl, rfl⟩
  case round =>
    rcases hrel with ⟨rfl, rfl, rfl⟩ | ⟨rfl, rfl, hB, hg⟩
    · have cT := mkHid (cT0.out wr)
      go_wp2_with fail
      refine cT.out.mono ?_
      rintro e w1 ⟨rfl, hb⟩
      have H1 := H.out.keep hb
      have A0 := H1.set0 mt
      have A1 := A0.set1 2
      have A2 := A1.set2 3
      have A3 := A2.set3 4
      have g0 := grG_set w1 g 0 (.string mt)
      have g1 := grG_set (w1.setCell ⟨g, 0, none⟩ (.string mt)) g 1 (.int .i64 2)
      have g2 := grG_set ((w1.setCell ⟨g, 0, none⟩ (.string mt)).setCell ⟨g, 1, none⟩ (.int .i64 2)) g 2 (.int .i64 3)
      have g3 := grG_set (((w1.setCell ⟨g, 0, none⟩ (.string mt)).setCell ⟨g, 1, none⟩ (.int .i64 2)).setCell ⟨g, 2, none⟩ (.int .i64 3)) g 3 (.int .i64 4)
      have hgr := mkHid (grG_trans (grG_trans (grG_trans (grG_trans (⟨hb.os, hb.tape, hb.output, hb.size, fun k hk _ => hb.block k hk⟩ : wr.grownBy w1 (some g)) g0) g1) g2) g3)
      clear g0 g1 g2 g3
      obtain ⟨d0, -, -, -, -, -⟩ := H1.cells
      obtain ⟨-, d1, -, -, -, -⟩ := A0.cells
      obtain ⟨-, -, d2, -, -, -⟩ := A1.cells
      obtain ⟨-, -, -, d3, -, -⟩ := A2.cells
      obtain ⟨-, -, -, -, d4, d5⟩ := A3.cells
      have z0 := H1.frozen 0
      have z1 := A0.frozen 1
      have z2 := A1.frozen 2
      have z3 := A2.frozen 3
      have HA := mkHid A3
      have cM := mkHid (fun w => markNilMail 5 w)
      have cG := mkHid (fun w => markNilGone 5 w)
      clear H H1 A0 A1 A2 A3 hb cT cT0
      go_wp2_with first | (go_at_call 14; go_must (refine (cM.out _).mono ?_; rintro e w2 ⟨rfl, rfl⟩)) | (go_at_call 15; go_must (refine (cG.out _).mono ?_; rintro e w2 ⟨rfl, rfl⟩))
      go_roundw
      case rel => exact .inr ⟨rfl, rfl, HA, hgr⟩
      case measure => decide
    · go_wp2
      go_ret
      exact ⟨rfl, hB, hg⟩
set_option maxHeartbeats 2000000 in
theorem heldOne (g : Nat) (w : World) (h : BoxRow w g m1T 2 3 4) :
    Calls Try.prog 11 #[.slice (some ⟨g, 0, none⟩) 1 1, .int .i64 1] w fun e w' => e = .returned (.int .i64 5) ∧ Below w.heap.size w w' := by
  have hsz := h.lt
  have H := mkHid h
  clear h
  have cT0 := mkHid (fun w => show Calls Try.prog 13 #[.int .i64 1] w fun e w' => e = .returned (.string m1T) ∧ Below w.heap.size w w' from markText 1 w (by decide) (by decide))
  generalize m1T = mt at *
  go_enter Try.func11, Try.ntmps11
  go_wp2
  go_loopw [1, 5] (fun m i wr => (m = .int .i64 1 ∧ i = .int .i64 0 ∧ wr = w) ∨ (m = .int .i64 5 ∧ i = .int .i64 1 ∧ Hid (Below w.heap.size w wr))) (fun _ i _ => 1 - (Lib.intOf i).toNat)
  case atStart => exact .inl ⟨rfl, rfl, rfl⟩
  case round =>
    rcases hrel with ⟨rfl, rfl, rfl⟩ | ⟨rfl, rfl, hB⟩
    · obtain ⟨d0, d1, d2, d3, d4, d5⟩ := H.out.cells
      have cT : ∀ d os, Calls Try.prog 13 #[.int .i64 1] (Go.Sort.grow (redrawn wr d) os) fun e w'' => e = .returned (.string mt) ∧ ∃ p : Regrown, w'' = Go.Sort.grow (redrawn wr p.d) p.os := fun d os => Calls.regrown_of (cT0.out _)
      have k0 := cell_regrown d0
      clear H cT0
      go_wp2
      refine wp_region_quiet_below (by kernel_rfl) (by kernel_rfl) ?_
      iterate 6 (quiet_step (fail))
      quiet_step (exact cT _ _)
      repeat (quiet_step (fail))
      refine wpQuiet_nil ?_
      intro _ hw'
      obtain ⟨⟨dq, osq⟩, hw''⟩ := hw'
      subst hw''
      have hbq := below_regrown wr dq osq
      have f1 := (hbq.cell (p := ⟨g, 1, none⟩) hsz).trans d1
      have f2 := (hbq.cell (p := ⟨g, 2, none⟩) hsz).trans d2
      have f3 := (hbq.cell (p := ⟨g, 3, none⟩) hsz).trans d3
      have f4 := (hbq.cell (p := ⟨g, 4, none⟩) hsz).trans d4
      have f5 := (hbq.cell (p := ⟨g, 5, none⟩) hsz).trans d5
      have HB2 := mkHid hbq
      generalize Go.Sort.grow (redrawn wr dq) osq = wq at *
      clear cT k0 d0 d1 d2 d3 d4 d5 hbq
      have cM := mkHid (fun w => heldNilMail 5 w)
      have cG := mkHid (fun w => heldNilGone 5 w)
      go_wp2_with first | (go_at_call 16; go_must (refine (cM.out _).mono ?_; rintro e w2 ⟨rfl, rfl⟩)) | (go_at_call 17; go_must (refine (cG.out _).mono ?_; rintro e w2 ⟨rfl, rfl⟩))
      go_roundw
      case rel => exact .inr ⟨rfl, rfl, HB2⟩
      case measure => decide
    · go_wp2
      go_ret
      exact ⟨rfl, hB.out⟩
end Go.Proofs.Ytlkjmgjcofijfaa
