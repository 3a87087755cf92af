
/- The program's ranges, tested. -/
import Derived.Test.YtdlbkedjkkapgaaDoorSpecRanges
namespace Go.Proofs.YtdlbkedjkkapgaaDoor
open Go.RowKit Go.Lib Go.Maps
set_option maxHeartbeats 1000000 in
theorem implNoRange (r : GRange) (w : World) :
    Calls Tryd.prog 22 #[GRangeV r] w fun e w' => e = .returned (.bool (!Rg.rOk r)) ∧ Below w.heap.size w w' := by
  have hb : ∀ b, Below w.heap.size w (w.alloc b) := fun b => (Below.refl _ _).alloc (Nat.le_refl _) _
  obtain ⟨p, q⟩ := r
  unfold GRangeV Rg.rOk
  obtain ⟨R, hR⟩ : ∃ R, (!(decide (1 ≤ p) && (decide (p ≤ q) && decide (q ≤ 4294967295)))) = R := ⟨_, rfl⟩
  show Calls Tryd.prog 22 #[.agg #[.int .i64 p, .int .i64 q]] w fun e w' => e = .returned (.bool (!(decide (1 ≤ p) && (decide (p ≤ q) && decide (q ≤ 4294967295))))) ∧ Below w.heap.size w w'
  rw [hR]
  replace hR := mkHid hR
  have Hb := mkHid hb
  clear hb
  by_cases y0 : 1 ≤ p
  · have u0 : decide (p < 1) = false := decide_eq_false (by omega)
    by_cases y1 : p ≤ q
    · have u1 : decide (q < p) = false := decide_eq_false (by omega)
      by_cases y2 : q ≤ 4294967295
      · have u2 : decide (4294967295 < q) = false := decide_eq_false (by omega)
        have hr : Hid (R = false) := by show _ = _; rw [← hR.out, decide_eq_true y0, decide_eq_true y1, decide_eq_true y2]; rfl
        clear hR
        go_enter Tryd.func22, Tryd.ntmps22
        go_wp2
        go_ret
        rw [hr.out]
        exact ⟨rfl, Hb.out _⟩
      · have u2 : decide (4294967295 < q) = true := decide_eq_true (by omega)
        have hr : Hid (R = true) := by show _ = _; rw [← hR.out, decide_eq_false y2]; simp
        clear hR
        go_enter Tryd.func22, Tryd.ntmps22
        go_wp2
        go_ret
        rw [hr.out]
        exact ⟨rfl, Hb.out _⟩
    · have u1 : decide (q < p) = true := decide_eq_true (by omega)
      have hr : Hid (R = true) := by show _ = _; rw [← hR.out, decide_eq_false y1]; simp
      clear hR
      go_enter Tryd.func22, Tryd.ntmps22
      go_wp2
      go_ret
      rw [hr.out]
      exact ⟨rfl, Hb.out _⟩
  · have u0 : decide (p < 1) = true := decide_eq_true (by omega)
    have hr : Hid (R = true) := by show _ = _; rw [← hR.out, decide_eq_false y0]; simp
    clear hR
    go_enter Tryd.func22, Tryd.ntmps22
    go_wp2
    go_ret
    rw [hr.out]
    exact ⟨rfl, Hb.out _⟩
set_option maxHeartbeats 1000000 in
theorem implIndexR (o : Option Addr) (F : List GRange) (cap lo : Nat) (w : World) (hF : GRangesL lo w.heap.size w o F) (hl : F.length ≤ 1048576) :
    Calls Tryd.prog 29 #[.slice o F.length cap, .func (.func 22) #[] #[]] w fun e w' => ∃ i : Int, e = .returned (.int .i64 i) ∧ decide (0 ≤ i) = !F.all Rg.rOk ∧ Below w.heap.size w w' := by
  have hE : ∀ (args : Array Value) (w : World), (callFunc 22 args).run Tryd.prog w = .ok (.enter 22 args) w := Go.Proofs.enters_of Tryd.func22 (by kernel_rfl) rfl
  have HF := mkHid hF
  clear hF
  obtain ⟨R, hR⟩ : ∃ R, F.all Rg.rOk = R := ⟨_, rfl⟩
  have HR : Hid ((F.drop 0).all Rg.rOk = R) := hR
  rw [hR]
  clear hR
  go_enter Tryd.func29, Tryd.ntmps29
  go_wp2
  go_loopw [5, 8] (fun _ iv wr => ∃ k : Nat, k ≤ F.length ∧ iv = .int .i64 k ∧ Hid ((F.drop k).all Rg.rOk = R) ∧ Hid (Below w.heap.size w wr)) (fun _ iv _ => F.length - (Lib.intOf iv).toNat)
  case atStart => exact ⟨0, Nat.zero_le _, rfl, HR, Below.refl _ _⟩
  case round =>
    clear HR
    obtain ⟨k, hk, rfl, hp, hB⟩ := hrel
    by_cases hlt : k < F.length
    · obtain ⟨a, rfl, ha1, ha2, hAt⟩ := ((HF.out.below hB.out (Nat.le_refl _)).mono (Nat.le_refl _) hB.out.size) k hlt
      have hst := Rg.all_dropR Rg.rOk F k hlt
      rw [hp.out] at hst
      have cN := mkHid (implNoRange F[k] wr)
      have d0 := hAt.c0
      have d1 := hAt.c1
      have Hst := mkHid hst
      clear hst hp hAt
      unfold GRangeV at cN
      generalize Rg.rOk F[k] = nb at *
      generalize F[k] = x at *
      go_wp2_with fail
      refine cN.out.mono ?_
      rintro e w1 ⟨rfl, hb1⟩
      have hB1 := mkHid (hB.out.trans (hb1.mono hB.out.size))
      clear cN hb1 hB d0 d1
      cases nb
      · have hR : R = false := by rw [Hst.out, Bool.false_and]
        subst hR
        clear Hst
        go_wp2
        go_ret
        exact ⟨k, rfl, by simp, hB1.out⟩
      · have HN : Hid ((F.drop (k + 1)).all Rg.rOk = R) := by show _ = _; rw [Hst.out, Bool.true_and]
        clear Hst
        go_wp2
        go_roundw
        case rel => exact ⟨k + 1, by omega, by go_num, HN, hB1⟩
        case measure => simp [Lib.intOf]; omega
    · have hR : R = true := by rw [← hp.out, List.drop_eq_nil_of_le (by omega)]; rfl
      subst hR
      clear hp
      go_wp2
      go_ret
      exact ⟨-1, rfl, rfl, hB.out⟩
theorem implContainsR (o : Option Addr) (F : List GRange) (cap lo : Nat) (w : World) (hF : GRangesL lo w.heap.size w o F) (hl : F.length ≤ 1048576) :
    Calls Tryd.prog 21 #[.slice o F.length cap, .func (.func 22) #[] #[]] w fun e w' => e = .returned (.bool (!F.all Rg.rOk)) ∧ Below w.heap.size w w' := by
  have hI := mkHid (implIndexR o F cap lo w hF hl)
  clear hF
  go_enter Tryd.func21, Tryd.ntmps21
  go_wp2_with fail
  refine hI.out.mono ?_
  rintro e w2 ⟨i, rfl, hi, hb⟩
  go_wp2
  go_ret
  exact ⟨by rw [← hi]; rfl, hb⟩
set_option maxHeartbeats 1000000 in
theorem implAreRanges (o : Option Addr) (F : List GRange) (cap lo : Nat) (w : World) (hF : GRangesL lo w.heap.size w o F) (hl : F.length ≤ 1048576) :
    Calls Tryd.prog 14 #[.slice o F.length cap] w fun e w' => e = .returned (.bool (Rg.rsOk F)) ∧ Below w.heap.size w w' := by
  have cC := mkHid (implContainsR o F cap lo w hF hl)
  clear hF
  unfold Rg.rsOk
  generalize F.all Rg.rOk = b at *
  by_cases h1 : 1 ≤ F.length
  · have x1 : decide ((0 : Int) < (F.length : Int)) = true := decide_eq_true (by omega)
    rw [decide_eq_true h1]
    by_cases h2 : F.length ≤ 100
    · have x2 : decide ((F.length : Int) ≤ 100) = true := decide_eq_true (by omega)
      rw [decide_eq_true h2, Bool.true_and, Bool.true_and]
      go_enter Tryd.func14, Tryd.ntmps14
      go_wp2_with fail
      refine cC.out.mono ?_
      rintro e w2 ⟨rfl, hb⟩
      go_wp2
      go_ret
      exact ⟨by simp, hb⟩
    · have x2 : decide ((F.length : Int) ≤ 100) = false := decide_eq_false (by omega)
      rw [decide_eq_false h2, Bool.true_and, Bool.false_and]
      clear cC
      go_enter Tryd.func14, Tryd.ntmps14
      go_wp2
      go_ret
      exact ⟨rfl, Below.refl _ _⟩
  · have x1 : decide ((0 : Int) < (F.length : Int)) = false := decide_eq_false (by omega)
    rw [decide_eq_false h1, Bool.false_and]
    clear cC
    go_enter Tryd.func14, Tryd.ntmps14
    go_wp2
    go_ret
    exact ⟨rfl, Below.refl _ _⟩
end Go.Proofs.YtdlbkedjkkapgaaDoor
