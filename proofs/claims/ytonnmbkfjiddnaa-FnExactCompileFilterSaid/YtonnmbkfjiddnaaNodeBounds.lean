
/- The program's bounds of a node, and its lists of texts. -/
import Derived.Test.YtonnmbkfjiddnaaNodeImpl
namespace Go.Proofs.Ytonnmbkfjiddnaa
open Go.RowKit Go.Lib Go.Maps
set_option maxHeartbeats 1000000 in
theorem implRightTexts (o : Option Addr) (F : List ByteArray) (cap most : Nat) (w : World) (hF : Tx w.heap.size w o F) (hlen : F.length ≤ 1048576) (hsz : ∀ t ∈ F, t.size ≤ 1048576) :
    Calls Try.prog 68 #[.slice o F.length cap, .int .i64 most] w fun e w' => e = .returned (.bool (decide (min 1 (most : Int) ≤ (F.length : Int)) && (decide ((F.length : Int) ≤ (most : Int)) && !(F.any fun t => !decide (t.size ≤ 1000))))) ∧ w = w' := by
  have hC := mkH (implContainsT kindLong o F cap w hF hlen hsz)
  clear hF hsz
  generalize (F.any fun t => !decide (t.size ≤ 1000)) = b at *
  by_cases h1 : min 1 (most : Int) ≤ (F.length : Int)
  · by_cases h2 : F.length ≤ most
    · have d1 : decide (min 1 (most : Int) ≤ (F.length : Int)) = true := by simpa using h1
      have d2 : decide ((F.length : Int) ≤ (most : Int)) = true := by simp; omega
      rw [d1, d2]
      cases b
      · go_enter Try.func68, Try.ntmps68
        go_wp2_with fail
        refine hC.out.mono ?_
        rintro e w2 ⟨rfl, rfl⟩
        clear hC
        go_wp2
        go_ret
        exact ⟨rfl, rfl⟩
      · go_enter Try.func68, Try.ntmps68
        go_wp2_with fail
        refine hC.out.mono ?_
        rintro e w2 ⟨rfl, rfl⟩
        clear hC
        go_wp2
        go_ret
        exact ⟨rfl, rfl⟩
    · have d1 : decide (min 1 (most : Int) ≤ (F.length : Int)) = true := by simpa using h1
      have d2 : decide ((F.length : Int) ≤ (most : Int)) = false := by simp; omega
      rw [d1, d2, Bool.false_and, Bool.and_false]
      clear hC
      go_enter Try.func68, Try.ntmps68
      go_wp2
      go_ret
      exact ⟨rfl, rfl⟩
  · have d1 : decide (min 1 (most : Int) ≤ (F.length : Int)) = false := by simpa using h1
    rw [d1, Bool.false_and]
    clear hC
    go_enter Try.func68, Try.ntmps68
    go_wp2
    go_ret
    exact ⟨rfl, rfl⟩
set_option maxHeartbeats 1000000 in
theorem implB3 (w : World) : Calls Try.prog 65 #[.int .i64 3] w fun e w' => e = .returned (.agg #[.int .i64 100, .int .i64 0, .int .i64 0, .int .i64 0, .int .i64 0]) ∧ Below w.heap.size w w' := by
  go_enter Try.func65, Try.ntmps65
  go_wp2
  refine bodyPost_ret (v := .agg #[.int .i64 100, .int .i64 0, .int .i64 0, .int .i64 0, .int .i64 0]) (by simp [results, Try.results65, go_sem]) rfl ⟨rfl, (Below.refl _ _).alloc (Nat.le_refl _) _⟩
set_option maxHeartbeats 1000000 in
theorem implB7 (w : World) : Calls Try.prog 65 #[.int .i64 7] w fun e w' => e = .returned (.agg #[.int .i64 0, .int .i64 0, .int .i64 1000, .int .i64 0, .int .i64 0]) ∧ Below w.heap.size w w' := by
  go_enter Try.func65, Try.ntmps65
  go_wp2
  refine bodyPost_ret (v := .agg #[.int .i64 0, .int .i64 0, .int .i64 1000, .int .i64 0, .int .i64 0]) (by simp [results, Try.results65, go_sem]) rfl ⟨rfl, (Below.refl _ _).alloc (Nat.le_refl _) _⟩
set_option maxHeartbeats 1000000 in
theorem implB8 (w : World) : Calls Try.prog 65 #[.int .i64 8] w fun e w' => e = .returned (.agg #[.int .i64 0, .int .i64 0, .int .i64 1000, .int .i64 0, .int .i64 0]) ∧ Below w.heap.size w w' := by
  go_enter Try.func65, Try.ntmps65
  go_wp2
  refine bodyPost_ret (v := .agg #[.int .i64 0, .int .i64 0, .int .i64 1000, .int .i64 0, .int .i64 0]) (by simp [results, Try.results65, go_sem]) rfl ⟨rfl, (Below.refl _ _).alloc (Nat.le_refl _) _⟩
set_option maxHeartbeats 1000000 in
theorem implB9 (w : World) : Calls Try.prog 65 #[.int .i64 9] w fun e w' => e = .returned (.agg #[.int .i64 0, .int .i64 0, .int .i64 1000, .int .i64 0, .int .i64 0]) ∧ Below w.heap.size w w' := by
  go_enter Try.func65, Try.ntmps65
  go_wp2
  refine bodyPost_ret (v := .agg #[.int .i64 0, .int .i64 0, .int .i64 1000, .int .i64 0, .int .i64 0]) (by simp [results, Try.results65, go_sem]) rfl ⟨rfl, (Below.refl _ _).alloc (Nat.le_refl _) _⟩
set_option maxHeartbeats 1000000 in
theorem implB10 (w : World) : Calls Try.prog 65 #[.int .i64 10] w fun e w' => e = .returned (.agg #[.int .i64 0, .int .i64 0, .int .i64 1000, .int .i64 0, .int .i64 0]) ∧ Below w.heap.size w w' := by
  go_enter Try.func65, Try.ntmps65
  go_wp2
  refine bodyPost_ret (v := .agg #[.int .i64 0, .int .i64 0, .int .i64 1000, .int .i64 0, .int .i64 0]) (by simp [results, Try.results65, go_sem]) rfl ⟨rfl, (Below.refl _ _).alloc (Nat.le_refl _) _⟩
set_option maxHeartbeats 1000000 in
theorem implB11 (w : World) : Calls Try.prog 65 #[.int .i64 11] w fun e w' => e = .returned (.agg #[.int .i64 0, .int .i64 0, .int .i64 1000, .int .i64 1, .int .i64 0]) ∧ Below w.heap.size w w' := by
  go_enter Try.func65, Try.ntmps65
  go_wp2
  refine bodyPost_ret (v := .agg #[.int .i64 0, .int .i64 0, .int .i64 1000, .int .i64 1, .int .i64 0]) (by simp [results, Try.results65, go_sem]) rfl ⟨rfl, (Below.refl _ _).alloc (Nat.le_refl _) _⟩
set_option maxHeartbeats 1000000 in
theorem implB28 (w : World) : Calls Try.prog 65 #[.int .i64 28] w fun e w' => e = .returned (.agg #[.int .i64 0, .int .i64 0, .int .i64 0, .int .i64 100, .int .i64 0]) ∧ Below w.heap.size w w' := by
  go_enter Try.func65, Try.ntmps65
  go_wp2
  refine bodyPost_ret (v := .agg #[.int .i64 0, .int .i64 0, .int .i64 0, .int .i64 100, .int .i64 0]) (by simp [results, Try.results65, go_sem]) rfl ⟨rfl, (Below.refl _ _).alloc (Nat.le_refl _) _⟩
set_option maxHeartbeats 1000000 in
theorem implB29 (w : World) : Calls Try.prog 65 #[.int .i64 29] w fun e w' => e = .returned (.agg #[.int .i64 999999999, .int .i64 0, .int .i64 0, .int .i64 0, .int .i64 0]) ∧ Below w.heap.size w w' := by
  go_enter Try.func65, Try.ntmps65
  go_wp2
  refine bodyPost_ret (v := .agg #[.int .i64 999999999, .int .i64 0, .int .i64 0, .int .i64 0, .int .i64 0]) (by simp [results, Try.results65, go_sem]) rfl ⟨rfl, (Below.refl _ _).alloc (Nat.le_refl _) _⟩
set_option maxHeartbeats 1000000 in
theorem implB30 (w : World) : Calls Try.prog 65 #[.int .i64 30] w fun e w' => e = .returned (.agg #[.int .i64 999999999, .int .i64 0, .int .i64 0, .int .i64 0, .int .i64 0]) ∧ Below w.heap.size w w' := by
  go_enter Try.func65, Try.ntmps65
  go_wp2
  refine bodyPost_ret (v := .agg #[.int .i64 999999999, .int .i64 0, .int .i64 0, .int .i64 0, .int .i64 0]) (by simp [results, Try.results65, go_sem]) rfl ⟨rfl, (Below.refl _ _).alloc (Nat.le_refl _) _⟩
set_option maxHeartbeats 1000000 in
theorem implB25 (w : World) : Calls Try.prog 65 #[.int .i64 25] w fun e w' => e = .returned (.agg #[.int .i64 0, .int .i64 2, .int .i64 0, .int .i64 100, .int .i64 100]) ∧ Below w.heap.size w w' := by
  go_enter Try.func65, Try.ntmps65
  go_wp2
  refine bodyPost_ret (v := .agg #[.int .i64 0, .int .i64 2, .int .i64 0, .int .i64 100, .int .i64 100]) (by simp [results, Try.results65, go_sem]) rfl ⟨rfl, (Below.refl _ _).alloc (Nat.le_refl _) _⟩
set_option maxHeartbeats 1000000 in
theorem implB26 (w : World) : Calls Try.prog 65 #[.int .i64 26] w fun e w' => e = .returned (.agg #[.int .i64 0, .int .i64 2, .int .i64 0, .int .i64 100, .int .i64 100]) ∧ Below w.heap.size w w' := by
  go_enter Try.func65, Try.ntmps65
  go_wp2
  refine bodyPost_ret (v := .agg #[.int .i64 0, .int .i64 2, .int .i64 0, .int .i64 100, .int .i64 100]) (by simp [results, Try.results65, go_sem]) rfl ⟨rfl, (Below.refl _ _).alloc (Nat.le_refl _) _⟩
set_option maxHeartbeats 1000000 in
theorem implB27 (w : World) : Calls Try.prog 65 #[.int .i64 27] w fun e w' => e = .returned (.agg #[.int .i64 0, .int .i64 2, .int .i64 0, .int .i64 100, .int .i64 100]) ∧ Below w.heap.size w w' := by
  go_enter Try.func65, Try.ntmps65
  go_wp2
  refine bodyPost_ret (v := .agg #[.int .i64 0, .int .i64 2, .int .i64 0, .int .i64 100, .int .i64 100]) (by simp [results, Try.results65, go_sem]) rfl ⟨rfl, (Below.refl _ _).alloc (Nat.le_refl _) _⟩
set_option maxHeartbeats 1000000 in
theorem implB31 (w : World) : Calls Try.prog 65 #[.int .i64 31] w fun e w' => e = .returned (.agg #[.int .i64 0, .int .i64 2, .int .i64 0, .int .i64 100, .int .i64 100]) ∧ Below w.heap.size w w' := by
  go_enter Try.func65, Try.ntmps65
  go_wp2
  refine bodyPost_ret (v := .agg #[.int .i64 0, .int .i64 2, .int .i64 0, .int .i64 100, .int .i64 100]) (by simp [results, Try.results65, go_sem]) rfl ⟨rfl, (Below.refl _ _).alloc (Nat.le_refl _) _⟩
set_option maxHeartbeats 1000000 in
theorem implBno (kd : Int) (w : World) (x3 : (kd == 3) = false) (x7 : (kd == 7) = false) (x8 : (kd == 8) = false) (x9 : (kd == 9) = false) (x10 : (kd == 10) = false) (x11 : (kd == 11) = false) (x28 : (kd == 28) = false) (x29 : (kd == 29) = false) (x30 : (kd == 30) = false) (x25 : (kd == 25) = false) (x26 : (kd == 26) = false) (x27 : (kd == 27) = false) (x31 : (kd == 31) = false) : Calls Try.prog 65 #[.int .i64 kd] w fun e w' => e = .returned (.agg #[.int .i64 0, .int .i64 0, .int .i64 0, .int .i64 0, .int .i64 0]) ∧ Below w.heap.size w w' := by
  go_enter Try.func65, Try.ntmps65
  go_wp2
  refine bodyPost_ret (v := .agg #[.int .i64 0, .int .i64 0, .int .i64 0, .int .i64 0, .int .i64 0]) (by simp [results, Try.results65, go_sem]) rfl ⟨rfl, (Below.refl _ _).alloc (Nat.le_refl _) _⟩
end Go.Proofs.Ytonnmbkfjiddnaa
