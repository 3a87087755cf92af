/- A byte coded, on both sides. -/
import Derived.Test.YtpjpnjbegjiegaaDoorContTake
import Derived.Test.YtpjpnjbegjiegaaDoorWritePlain
namespace Go.Proofs.YtpjpnjbegjiegaaDoor
open Go.RowKit Go.Lib
abbrev HEX : ByteArray := ⟨#[48, 49, 50, 51, 52, 53, 54, 55, 56, 57, 65, 66, 67, 68, 69, 70]⟩
theorem hexIx0 (w : World) : Sem.run Tryd.prog (Instr.index 9 (.string HEX) (.int .u8 0)) w = .ok (.int .u8 48) w := by kernel_rfl
theorem hexIx1 (w : World) : Sem.run Tryd.prog (Instr.index 9 (.string HEX) (.int .u8 1)) w = .ok (.int .u8 49) w := by kernel_rfl
theorem hexIx2 (w : World) : Sem.run Tryd.prog (Instr.index 9 (.string HEX) (.int .u8 2)) w = .ok (.int .u8 50) w := by kernel_rfl
theorem hexIx3 (w : World) : Sem.run Tryd.prog (Instr.index 9 (.string HEX) (.int .u8 3)) w = .ok (.int .u8 51) w := by kernel_rfl
theorem hexIx4 (w : World) : Sem.run Tryd.prog (Instr.index 9 (.string HEX) (.int .u8 4)) w = .ok (.int .u8 52) w := by kernel_rfl
theorem hexIx5 (w : World) : Sem.run Tryd.prog (Instr.index 9 (.string HEX) (.int .u8 5)) w = .ok (.int .u8 53) w := by kernel_rfl
theorem hexIx6 (w : World) : Sem.run Tryd.prog (Instr.index 9 (.string HEX) (.int .u8 6)) w = .ok (.int .u8 54) w := by kernel_rfl
theorem hexIx7 (w : World) : Sem.run Tryd.prog (Instr.index 9 (.string HEX) (.int .u8 7)) w = .ok (.int .u8 55) w := by kernel_rfl
theorem hexIx8 (w : World) : Sem.run Tryd.prog (Instr.index 9 (.string HEX) (.int .u8 8)) w = .ok (.int .u8 56) w := by kernel_rfl
theorem hexIx9 (w : World) : Sem.run Tryd.prog (Instr.index 9 (.string HEX) (.int .u8 9)) w = .ok (.int .u8 57) w := by kernel_rfl
theorem hexIx10 (w : World) : Sem.run Tryd.prog (Instr.index 9 (.string HEX) (.int .u8 10)) w = .ok (.int .u8 65) w := by kernel_rfl
theorem hexIx11 (w : World) : Sem.run Tryd.prog (Instr.index 9 (.string HEX) (.int .u8 11)) w = .ok (.int .u8 66) w := by kernel_rfl
theorem hexIx12 (w : World) : Sem.run Tryd.prog (Instr.index 9 (.string HEX) (.int .u8 12)) w = .ok (.int .u8 67) w := by kernel_rfl
theorem hexIx13 (w : World) : Sem.run Tryd.prog (Instr.index 9 (.string HEX) (.int .u8 13)) w = .ok (.int .u8 68) w := by kernel_rfl
theorem hexIx14 (w : World) : Sem.run Tryd.prog (Instr.index 9 (.string HEX) (.int .u8 14)) w = .ok (.int .u8 69) w := by kernel_rfl
theorem hexIx15 (w : World) : Sem.run Tryd.prog (Instr.index 9 (.string HEX) (.int .u8 15)) w = .ok (.int .u8 70) w := by kernel_rfl
theorem hexIx (n : Nat) (h : n < 16) (w : World) : Sem.run Tryd.prog (Instr.index 9 (.string HEX) (.int .u8 (n : Int))) w = .ok (.int .u8 ((Pl.hexD n).toNat : Int)) w := by
  have e : n = 0 ∨ n = 1 ∨ n = 2 ∨ n = 3 ∨ n = 4 ∨ n = 5 ∨ n = 6 ∨ n = 7 ∨ n = 8 ∨ n = 9 ∨ n = 10 ∨ n = 11 ∨ n = 12 ∨ n = 13 ∨ n = 14 ∨ n = 15 := by omega
  rcases e with rfl | rfl | rfl | rfl | rfl | rfl | rfl | rfl | rfl | rfl | rfl | rfl | rfl | rfl | rfl | rfl
  · exact hexIx0 w
  · exact hexIx1 w
  · exact hexIx2 w
  · exact hexIx3 w
  · exact hexIx4 w
  · exact hexIx5 w
  · exact hexIx6 w
  · exact hexIx7 w
  · exact hexIx8 w
  · exact hexIx9 w
  · exact hexIx10 w
  · exact hexIx11 w
  · exact hexIx12 w
  · exact hexIx13 w
  · exact hexIx14 w
  · exact hexIx15 w
theorem az_cases (c : UInt8) : (97 ≤ c.toNat ∧ c.toNat ≤ 122 ∧ Pl.az c = true) ∨ (65 ≤ c.toNat ∧ c.toNat ≤ 90 ∧ Pl.az c = true) ∨ (48 ≤ c.toNat ∧ c.toNat ≤ 57 ∧ Pl.az c = true) ∨
    ((c.toNat < 48 ∨ (58 ≤ c.toNat ∧ c.toNat ≤ 64) ∨ (91 ≤ c.toNat ∧ c.toNat ≤ 96) ∨ 123 ≤ c.toNat) ∧ Pl.az c = false) := by
  unfold Pl.az
  by_cases h1 : 97 ≤ c.toNat ∧ c.toNat ≤ 122
  · exact .inl ⟨h1.1, h1.2, by rw [decide_eq_true h1, Bool.true_or]⟩
  by_cases h2 : 65 ≤ c.toNat ∧ c.toNat ≤ 90
  · exact .inr (.inl ⟨h2.1, h2.2, by rw [decide_eq_true h2, Bool.true_or, Bool.or_true]⟩)
  by_cases h3 : 48 ≤ c.toNat ∧ c.toNat ≤ 57
  · exact .inr (.inr (.inl ⟨h3.1, h3.2, by rw [decide_eq_true h3, Bool.or_true, Bool.or_true]⟩))
  · exact .inr (.inr (.inr ⟨by omega, by rw [decide_eq_false h1, decide_eq_false h2, decide_eq_false h3]; rfl⟩))
theorem w8 (x : Int) (h0 : 0 ≤ x) (h1 : x < 256) : IntKind.u8.wrap x = x := by
  unfold IntKind.wrap
  simp [IntKind.bits, IntKind.signed]
  omega
theorem safe_cases (c : UInt8) : (Pl.az c = true ∧ Pl.safe c = true) ∨ (Pl.az c = false ∧ ((c.toNat = 45 ∧ Pl.safe c = true) ∨ (c.toNat = 46 ∧ Pl.safe c = true) ∨ (c.toNat = 95 ∧ Pl.safe c = true) ∨ (c.toNat ≠ 45 ∧ c.toNat ≠ 46 ∧ c.toNat ≠ 95 ∧ Pl.safe c = false))) := by
  unfold Pl.safe
  cases h : Pl.az c
  · refine .inr ⟨rfl, ?_⟩
    rw [Bool.false_or]
    by_cases d1 : c.toNat = 45
    · obtain rfl : c = 45 := UInt8.toNat_inj.1 d1
      simp
    by_cases d2 : c.toNat = 46
    · obtain rfl : c = 46 := UInt8.toNat_inj.1 d2
      simp
    by_cases d3 : c.toNat = 95
    · obtain rfl : c = 95 := UInt8.toNat_inj.1 d3
      simp
    · refine .inr (.inr (.inr ⟨d1, d2, d3, ?_⟩))
      simp only [Bool.or_eq_false_iff, beq_eq_false_iff_ne, ne_eq]
      exact ⟨fun e => d1 (by rw [e]; rfl), fun e => d2 (by rw [e]; rfl), fun e => d3 (by rw [e]; rfl)⟩
  · exact .inl ⟨rfl, by rw [Bool.true_or]⟩
theorem text1 (c : UInt8) (w : World) : (convert 43 9 (.slice (some ⟨w.heap.size, 0, none⟩) 1 1)).run Tryd.prog (w.alloc (.cells #[.int .u8 (c.toNat : Int)] 5)) = .ok (.string ⟨#[c]⟩) (w.alloc (.cells #[.int .u8 (c.toNat : Int)] 5)) := by
  refine run_convert_bytes_back (P := Tryd.prog) _ 43 9 5 ⟨w.heap.size, 0, none⟩ 1 [c] Tryd.underlying43 Tryd.underlying5 Tryd.underlying9 ?_
  intro j hj
  match j, hj with
  | 0, hj => rw [add_off]; simp
theorem text3 (a b c : UInt8) (w : World) : (convert 43 9 (.slice (some ⟨w.heap.size, 0, none⟩) 3 3)).run Tryd.prog (w.alloc (.cells #[.int .u8 (a.toNat : Int), .int .u8 (b.toNat : Int), .int .u8 (c.toNat : Int)] 5)) = .ok (.string ⟨#[a, b, c]⟩) (w.alloc (.cells #[.int .u8 (a.toNat : Int), .int .u8 (b.toNat : Int), .int .u8 (c.toNat : Int)] 5)) := by
  refine run_convert_bytes_back (P := Tryd.prog) _ 43 9 5 ⟨w.heap.size, 0, none⟩ 3 [a, b, c] Tryd.underlying43 Tryd.underlying5 Tryd.underlying9 ?_
  intro j hj
  match j, hj with
  | 0, hj => rw [add_off]; simp
  | 1, hj => rw [add_off]; simp
  | 2, hj => rw [add_off]; simp
theorem text3d (b c : UInt8) (w : World) : (convert 43 9 (.slice (some ⟨w.heap.size, 0, none⟩) 3 3)).run Tryd.prog (w.alloc (.cells #[.int .u8 37, .int .u8 (b.toNat : Int), .int .u8 (c.toNat : Int)] 5)).drew = .ok (.string ⟨#[37, b, c]⟩) (w.alloc (.cells #[.int .u8 37, .int .u8 (b.toNat : Int), .int .u8 (c.toNat : Int)] 5)).drew := text3 37 b c w.drew
set_option maxRecDepth 20000 in
set_option maxHeartbeats 2000000 in
theorem specCode (c : UInt8) (w : World) : Calls Tryd.prog 31 #[.int .u8 (c.toNat : Int)] w fun e w' => e = .returned (.string ⟨(Pl.codeB c).toArray⟩) ∧ Below w.heap.size w w' := by
  have h8 : c.toNat < 256 := UInt8.toNat_lt _
  have hcv := text1 c w
  have hbA : ∀ b, Below w.heap.size w (w.alloc b) := fun b => (Below.refl _ _).alloc (Nat.le_refl _) _
  unfold Pl.codeB
  rcases safe_cases c with ⟨ha, hs⟩ | ⟨ha, hs⟩
  · rw [hs, if_pos rfl]
    rcases az_cases c with ⟨h0, h1, hb⟩ | ⟨h0, h1, hb⟩ | ⟨h0, h1, hb⟩ | ⟨h0, hb⟩ <;> rw [ha] at hb <;> first | (cases hb; done) | skip
    all_goals
      clear hb ha hs
      go_enter Tryd.func31, Tryd.ntmps31
      go_wp2
      go_ret
      exact ⟨rfl, hbA _⟩
  · rcases hs with ⟨d, hs⟩ | ⟨d, hs⟩ | ⟨d, hs⟩ | ⟨d1, d2, d3, hs⟩
    case inr.inr.inr =>
      have e1 : ((c.toNat : Int) == 45) = false := eq_no c 45 d1
      have e2 : ((c.toNat : Int) == 46) = false := eq_no c 46 d2
      have e3 : ((c.toNat : Int) == 95) = false := eq_no c 95 d3
      rw [hs, if_neg (by simp)]
      have x1 : ∀ w, Sem.run Tryd.prog (Instr.index 9 (.string HEX) (.int .u8 ((c.toNat : Int) / 16))) w = .ok (.int .u8 ((Pl.hexD (c.toNat / 16)).toNat : Int)) w := hexIx (c.toNat / 16) (by omega)
      have x2 : ∀ w, Sem.run Tryd.prog (Instr.index 9 (.string HEX) (.int .u8 ((c.toNat : Int) % 16))) w = .ok (.int .u8 ((Pl.hexD (c.toNat % 16)).toNat : Int)) w := hexIx (c.toNat % 16) (by omega)
      have t3 := text3d (Pl.hexD (c.toNat / 16)) (Pl.hexD (c.toNat % 16)) w
      generalize Pl.hexD (c.toNat / 16) = y1 at *
      generalize Pl.hexD (c.toNat % 16) = y2 at *
      clear hcv hs
      rcases az_cases c with ⟨h0, h1, hb⟩ | ⟨h0, h1, hb⟩ | ⟨h0, h1, hb⟩ | ⟨h0, hb⟩ <;> rw [ha] at hb <;> first | (cases hb; done) | skip
      clear ha hb
      rcases h0 with h0 | ⟨h0, h1⟩ | ⟨h0, h1⟩ | h0
      all_goals
        go_enter Tryd.func31, Tryd.ntmps31
        go_wp2
        refine wp_region_any (by kernel_rfl) ?_
        refine wpAny_take (i := 0) (v := .int .u8 (c.toNat : Int)) rfl (by kernel_rfl) (by kernel_rfl) (by kernel_rfl) (fun _ _ _ h => h) (Or.inl ⟨by rfl, ?_⟩) ?_
        · intro w
          go_simp
        go_simp
        refine wpAny_take (i := 1) (v := .int .u8 ((c.toNat : Int) / 16)) rfl (by kernel_rfl) (by kernel_rfl) (by kernel_rfl) (fun _ _ _ h => h) (Or.inl ⟨by rfl, ?_⟩) ?_
        · intro w
          go_simp
          exact w8 _ (by omega) (by omega)
        go_simp
        refine wpAny_take (i := 2) (v := .int .u8 (y1.toNat : Int)) rfl (by kernel_rfl) (by kernel_rfl) (by kernel_rfl) (fun _ _ _ h => h) (Or.inl ⟨by rfl, ?_⟩) ?_
        · intro w
          go_simp
        go_simp
        refine wpAny_take (i := 3) (v := .int .u8 (c.toNat : Int)) rfl (by kernel_rfl) (by kernel_rfl) (by kernel_rfl) (fun _ _ _ h => h) (Or.inl ⟨by rfl, ?_⟩) ?_
        · intro w
          go_simp
        go_simp
        refine wpAny_take (i := 4) (v := .int .u8 ((c.toNat : Int) % 16)) rfl (by kernel_rfl) (by kernel_rfl) (by kernel_rfl) (fun _ _ _ h => h) (Or.inl ⟨by rfl, ?_⟩) ?_
        · intro w
          go_simp
          exact Int.tmod_eq_emod_of_nonneg (by omega)
        go_simp
        refine wpAny_take (i := 5) (v := .int .u8 (y2.toNat : Int)) rfl (by kernel_rfl) (by kernel_rfl) (by kernel_rfl) (fun _ _ _ h => h) (Or.inl ⟨by rfl, ?_⟩) ?_
        · intro w
          go_simp
        go_simp
        refine wpAny_ready (rs := [6]) (by kernel_rfl) (by simp) ?_
        refine AllReady.cons rfl (fun K hK => ?_) AllReady.nil
        go_simp
        refine hK _ _ ?_
        clear hK K
        go_simp
        refine wpAny_ready (rs := [7]) (by kernel_rfl) (by simp) ?_
        refine AllReady.cons rfl (fun K hK => ?_) AllReady.nil
        go_simp
        refine hK _ _ ?_
        clear hK K
        go_simp
        refine wpAny_take (i := 8) (v := .string ⟨#[37, y1, y2]⟩) rfl (by kernel_rfl) (by kernel_rfl) (by kernel_rfl) (fun _ _ _ h => h) (Or.inl ⟨by rfl, ?_⟩) ?_
        · intro w
          go_simp
        go_simp
        refine wpAny_done (by kernel_rfl) ?_ _
        go_wp2
        go_ret
        exact ⟨rfl, (hbA _).drew⟩
    · rw [hs, if_pos rfl]
      have y0 : ((c.toNat : Int) == 45) = true := eq_yes c 45 d
      have r0 : c.toNat < 48 := by omega
      clear hs ha d
      go_enter Tryd.func31, Tryd.ntmps31
      go_wp2
      go_ret
      exact ⟨rfl, hbA _⟩
    · rw [hs, if_pos rfl]
      have y0 : ((c.toNat : Int) == 46) = true := eq_yes c 46 d
      have r0 : c.toNat < 48 := by omega
      have y45 : ((c.toNat : Int) == 45) = false := eq_no c 45 (by omega)
      clear hs ha d
      go_enter Tryd.func31, Tryd.ntmps31
      go_wp2
      go_ret
      exact ⟨rfl, hbA _⟩
    · rw [hs, if_pos rfl]
      have y0 : ((c.toNat : Int) == 95) = true := eq_yes c 95 d
      have r0 : 91 ≤ c.toNat := by omega
      have r1 : c.toNat ≤ 96 := by omega
      have y45 : ((c.toNat : Int) == 45) = false := eq_no c 45 (by omega)
      have y46 : ((c.toNat : Int) == 46) = false := eq_no c 46 (by omega)
      clear hs ha d
      go_enter Tryd.func31, Tryd.ntmps31
      go_wp2
      go_ret
      exact ⟨rfl, hbA _⟩
end Go.Proofs.YtpjpnjbegjiegaaDoor
