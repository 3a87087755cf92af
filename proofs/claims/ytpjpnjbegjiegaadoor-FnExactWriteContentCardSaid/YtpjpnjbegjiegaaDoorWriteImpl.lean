/- A byte coded, the program's side; its tests of bytes. -/
import Derived.Test.YtpjpnjbegjiegaaDoorWriteCode
namespace Go.Proofs.YtpjpnjbegjiegaaDoor
open Go.RowKit Go.Lib
def csigns : List UInt8 := [45, 46, 95]
theorem csigns_all : ∀ n, n < 256 → decide (0 ≤ indexByte csigns (UInt8.ofNat n)) = (UInt8.ofNat n == 45 || (UInt8.ofNat n == 46 || UInt8.ofNat n == 95)) := by decide +kernel
theorem csigns_eq (c : UInt8) : decide (0 ≤ indexByte csigns c) = (c == 45 || (c == 46 || c == 95)) := by
  have := csigns_all c.toNat (UInt8.toNat_lt c)
  rw [UInt8.ofNat_toNat] at this
  exact this
theorem libIndexC (c : UInt8) (w : World) : Calls Tryd.prog 43 #[.string ⟨#[45, 46, 95]⟩, .int .u8 (c.toNat : Int)] w fun e w' => e = .returned (.int .i64 (indexByte csigns c)) ∧ w = w' := by
  refine (Tryd.strings_IndexByte _ _ w).mono ?_
  rintro e w' ⟨rfl, rfl⟩
  refine ⟨?_, rfl⟩
  have : (c.toNat : Int).toNat.toUInt8 = c := by simp
  rw [this]
  rfl
theorem letter_digit_all : ∀ n, n < 256 → (Pl.letter (UInt8.ofNat n) || Pl.digit (UInt8.ofNat n)) = Pl.az (UInt8.ofNat n) := by decide +kernel
theorem letter_digit (c : UInt8) : (Pl.letter c || Pl.digit c) = Pl.az c := by
  have := letter_digit_all c.toNat (UInt8.toNat_lt c)
  rw [UInt8.ofNat_toNat] at this
  exact this
theorem and15_all : ∀ X : Fin 256, bits .and .u8 ((X.val : Nat) : Int) 15 = ((X.val % 16 : Nat) : Int) := by decide +kernel
theorem and15 (c : UInt8) : bits .and .u8 (c.toNat : Int) 15 = (c.toNat : Int) % 16 := and15_all ⟨c.toNat, UInt8.toNat_lt c⟩
set_option maxRecDepth 20000 in
set_option maxHeartbeats 2000000 in
theorem implCode (c : UInt8) (w : World) : Calls Tryd.prog 48 #[.int .u8 (c.toNat : Int)] w fun e w' => e = .returned (.string ⟨(Pl.codeB c).toArray⟩) ∧ Below w.heap.size w w' := by
  have h8 : c.toNat < 256 := UInt8.toNat_lt _
  have hcv := text1 c w
  have hbA : ∀ b, Below w.heap.size w (w.alloc b) := fun b => (Below.refl _ _).alloc (Nat.le_refl _) _
  have hL := implLetter c w
  have hD := implDigit c w
  have hX := libIndexC c w
  have hsafe : Pl.safe c = (Pl.letter c || (Pl.digit c || decide (0 ≤ indexByte csigns c))) := by
    unfold Pl.safe
    rw [csigns_eq, ← letter_digit, Bool.or_assoc]
  unfold Pl.codeB
  rw [hsafe]
  generalize indexByte csigns c = ix at hX ⊢
  cases hl : Pl.letter c
  · rw [hl] at hL
    cases hd : Pl.digit c
    · rw [hd] at hD
      by_cases hi : 0 ≤ ix
      · rw [Bool.false_or, Bool.false_or, decide_eq_true hi, if_pos rfl]
        clear hsafe hl hd
        go_enter Tryd.func48, Tryd.ntmps48
        go_wp2_with first | (go_at_call 55; go_must (refine hL.mono ?_; rintro e w2 ⟨rfl, rfl⟩)) | (go_at_call 42; go_must (refine hD.mono ?_; rintro e w2 ⟨rfl, rfl⟩)) | (go_at_call 43; go_must (refine hX.mono ?_; rintro e w2 ⟨rfl, rfl⟩))
        go_ret
        exact ⟨rfl, hbA _⟩
      · rw [Bool.false_or, Bool.false_or, decide_eq_false hi, if_neg (by simp)]
        have x1 : ∀ w, Sem.run Tryd.prog (Instr.index 9 (.string HEX) (.int .u8 ((c.toNat : Int) / 16))) w = .ok (.int .u8 ((Pl.hexD (c.toNat / 16)).toNat : Int)) w := hexIx (c.toNat / 16) (by omega)
        have x2 : ∀ w, Sem.run Tryd.prog (Instr.index 9 (.string HEX) (.int .u8 ((c.toNat : Int) % 16))) w = .ok (.int .u8 ((Pl.hexD (c.toNat % 16)).toNat : Int)) w := hexIx (c.toNat % 16) (by omega)
        have t3 := text3d (Pl.hexD (c.toNat / 16)) (Pl.hexD (c.toNat % 16)) w
        generalize Pl.hexD (c.toNat / 16) = y1 at *
        generalize Pl.hexD (c.toNat % 16) = y2 at *
        clear hcv hsafe hl hd
        go_enter Tryd.func48, Tryd.ntmps48
        go_wp2_with first | (go_at_call 55; go_must (refine hL.mono ?_; rintro e w2 ⟨rfl, rfl⟩)) | (go_at_call 42; go_must (refine hD.mono ?_; rintro e w2 ⟨rfl, rfl⟩)) | (go_at_call 43; go_must (refine hX.mono ?_; rintro e w2 ⟨rfl, rfl⟩))
        refine wp_region_any (by kernel_rfl) ?_
        refine wpAny_take (i := 0) (v := .int .u8 (c.toNat : Int)) rfl (by kernel_rfl) (by kernel_rfl) (by kernel_rfl) (fun _ _ _ h => h) (Or.inl ⟨by rfl, ?_⟩) ?_
        · intro w
          go_simp
        go_simp
        refine wpAny_take (i := 1) (v := .int .u8 ((c.toNat : Int) / 16)) rfl (by kernel_rfl) (by kernel_rfl) (by kernel_rfl) (fun _ _ _ h => h) (Or.inl ⟨by rfl, ?_⟩) ?_
        · intro w
          go_simp
        go_simp
        refine wpAny_take (i := 2) (v := .int .u8 (y1.toNat : Int)) rfl (by kernel_rfl) (by kernel_rfl) (by kernel_rfl) (fun _ _ _ h => h) (Or.inl ⟨by rfl, ?_⟩) ?_
        · intro w
          go_simp
        go_simp
        refine wpAny_take (i := 3) (v := .int .u8 (c.toNat : Int)) rfl (by kernel_rfl) (by kernel_rfl) (by kernel_rfl) (fun _ _ _ h => h) (Or.inl ⟨by rfl, ?_⟩) ?_
        · intro w
          go_simp
        go_simp
        refine wpAny_take (i := 4) (v := .int .u8 ((c.toNat : Int) % 16)) rfl (by kernel_rfl) (by kernel_rfl) (by kernel_rfl) (fun _ _ _ h => h) (Or.inl ⟨by rfl, ?_⟩) ?_
        · intro w
          go_simp
          exact and15 c
        go_simp
        refine wpAny_take (i := 5) (v := .int .u8 (y2.toNat : Int)) rfl (by kernel_rfl) (by kernel_rfl) (by kernel_rfl) (fun _ _ _ h => h) (Or.inl ⟨by rfl, ?_⟩) ?_
        · intro w
          go_simp
        go_simp
        refine wpAny_ready (rs := [6]) (by kernel_rfl) (by simp) ?_
        refine AllReady.cons rfl (fun K hK => ?_) AllReady.nil
        go_simp
        refine hK _ _ ?_
        clear hK K
        go_simp
        refine wpAny_ready (rs := [7]) (by kernel_rfl) (by simp) ?_
        refine AllReady.cons rfl (fun K hK => ?_) AllReady.nil
        go_simp
        refine hK _ _ ?_
        clear hK K
        go_simp
        refine wpAny_take (i := 8) (v := .string ⟨#[37, y1, y2]⟩) rfl (by kernel_rfl) (by kernel_rfl) (by kernel_rfl) (fun _ _ _ h => h) (Or.inl ⟨by rfl, ?_⟩) ?_
        · intro w
          go_simp
        go_simp
        refine wpAny_done (by kernel_rfl) ?_ _
        go_wp2
        go_ret
        exact ⟨rfl, (hbA _).drew⟩
    · rw [hd] at hD
      rw [Bool.false_or, Bool.true_or, if_pos rfl]
      clear hsafe hl hd
      go_enter Tryd.func48, Tryd.ntmps48
      go_wp2_with first | (go_at_call 55; go_must (refine hL.mono ?_; rintro e w2 ⟨rfl, rfl⟩)) | (go_at_call 42; go_must (refine hD.mono ?_; rintro e w2 ⟨rfl, rfl⟩))
      go_ret
      exact ⟨rfl, hbA _⟩
  · rw [hl] at hL
    rw [Bool.true_or, if_pos rfl]
    clear hsafe hl
    go_enter Tryd.func48, Tryd.ntmps48
    go_wp2_with (go_at_call 55; go_must (refine hL.mono ?_; rintro e w2 ⟨rfl, rfl⟩))
    go_ret
    exact ⟨rfl, hbA _⟩
def psigns : List UInt8 := [42, 39, 37, 61]
theorem psigns_all : ∀ n, n < 256 → decide (indexByte psigns (UInt8.ofNat n) < 0) = !(UInt8.ofNat n == 42 || (UInt8.ofNat n == 39 || (UInt8.ofNat n == 37 || UInt8.ofNat n == 61))) := by decide +kernel
theorem psigns_eq (c : UInt8) : decide (indexByte psigns c < 0) = !(c == 42 || (c == 39 || (c == 37 || c == 61))) := by
  have := psigns_all c.toNat (UInt8.toNat_lt c)
  rw [UInt8.ofNat_toNat] at this
  exact this
theorem libIndexP (c : UInt8) (w : World) : Calls Tryd.prog 43 #[.string ⟨#[42, 39, 37, 61]⟩, .int .u8 (c.toNat : Int)] w fun e w' => e = .returned (.int .i64 (indexByte psigns c)) ∧ w = w' := by
  refine (Tryd.strings_IndexByte _ _ w).mono ?_
  rintro e w' ⟨rfl, rfl⟩
  refine ⟨?_, rfl⟩
  have : (c.toNat : Int).toNat.toUInt8 = c := by simp
  rw [this]
  rfl
set_option maxRecDepth 100000 in
set_option maxHeartbeats 400000 in
theorem implPlainByte (c : UInt8) (w : World) : Calls Tryd.prog 34 #[.int .u8 (c.toNat : Int)] w fun e w' => e = .returned (.bool (Pl.pb c)) ∧ w = w' := by
  have hA := implAtomByte c w
  have hX := libIndexP c w
  unfold Pl.pb
  rw [← psigns_eq]
  generalize indexByte psigns c = ix at hX ⊢
  by_cases h1 : c.toNat < 128
  · rw [decide_eq_true h1, Bool.true_and]
    cases ha : Pl.atom c
    · rw [ha] at hA
      rw [Bool.false_and]
      clear ha
      go_enter Tryd.func34, Tryd.ntmps34
      go_wp2_with (go_at_call 47; go_must (refine hA.mono ?_; rintro e w2 ⟨rfl, rfl⟩))
      go_ret
      exact ⟨rfl, rfl⟩
    · rw [ha] at hA
      rw [Bool.true_and]
      clear ha
      go_enter Tryd.func34, Tryd.ntmps34
      go_wp2_with first | (go_at_call 47; go_must (refine hA.mono ?_; rintro e w2 ⟨rfl, rfl⟩)) | (go_at_call 43; go_must (refine hX.mono ?_; rintro e w2 ⟨rfl, rfl⟩))
      go_ret
      exact ⟨rfl, rfl⟩
  · rw [decide_eq_false h1, Bool.false_and]
    go_enter Tryd.func34, Tryd.ntmps34
    go_wp2
    go_ret
    exact ⟨rfl, rfl⟩
theorem kindPlain : Kind 34 Pl.pb := ⟨Go.Proofs.enters_of Tryd.func34 (by kernel_rfl) rfl, implPlainByte⟩
theorem implPrintable (c : UInt8) (w : World) : Calls Tryd.prog 36 #[.int .u8 (c.toNat : Int)] w fun e w' => e = .returned (.bool (Pl.prn c)) ∧ w = w' := by
  unfold Pl.prn
  by_cases h1 : 32 ≤ c.toNat
  · by_cases h2 : c.toNat ≤ 126
    · rw [decide_eq_true h1, decide_eq_true h2]
      go_enter Tryd.func36, Tryd.ntmps36
      go_wp2
      go_ret
      exact ⟨congrArg (fun b => Ending.returned (.bool b)) (by first | (simp; done) | (simp; omega)), rfl⟩
    · rw [decide_eq_true h1, decide_eq_false h2]
      go_enter Tryd.func36, Tryd.ntmps36
      go_wp2
      go_ret
      exact ⟨congrArg (fun b => Ending.returned (.bool b)) (by first | (simp; done) | (simp; omega)), rfl⟩
  · rw [decide_eq_false h1, Bool.false_and]
    go_enter Tryd.func36, Tryd.ntmps36
    go_wp2
    go_ret
    exact ⟨congrArg (fun b => Ending.returned (.bool b)) (by first | (simp; done) | (simp; omega)), rfl⟩
theorem kindPrint : Kind 36 Pl.prn := ⟨Go.Proofs.enters_of Tryd.func36 (by kernel_rfl) rfl, implPrintable⟩
end Go.Proofs.YtpjpnjbegjiegaaDoor
