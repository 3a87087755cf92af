
/- SumOf, the specification's side. -/
import Derived.Test.YtmpeflmfglbnnaaDoorChecked
import Derived.Test.YtmpeflmfglbnnaaDoorSumPlain
import Derived.Test.YtmpeflmfglbnnaaDoorFoldPlain
import Derived.WalkKit
import Derived.WalkLawsBesides
import Derived.WalkSpells
import Derived.WalkSmall
import Derived.Below
import Derived.Test.YtmpeflmfglbnnaaDoorCells
import Derived.Test.YtmpeflmfglbnnaaDoorBytes
import Derived.Lib.Agree
import Derived.Lib.QuietBelow
import Derived.Deep.QuietTactic
import Derived.BigQuiet
import Derived.Deep.RegionWith
namespace Go.Proofs.YtmpeflmfglbnnaaDoor
open Go.RowKit Go.Lib
abbrev keyV (d s : ByteArray) (x y : Int) : Value := .agg #[.string d, .string s, .int .i64 x, .int .i64 y]
def keyOk (x y : Int) : Bool := decide (1 ≤ x) && (decide (x < 2147483647) && (decide (1 ≤ y) && decide (y < 2147483647)))
theorem keyOk_iff (x y : Int) : keyOk x y = true ↔ 1 ≤ x ∧ x < 2147483647 ∧ 1 ≤ y ∧ y < 2147483647 := by
  unfold keyOk
  simp only [Bool.and_eq_true, decide_eq_true_eq]
set_option maxHeartbeats 1000000 in
theorem specKey (d s : ByteArray) (x y : Int) (w : World) : Calls Tryd.prog 14 #[keyV d s x y] w fun e w' => e = .returned (.bool (keyOk x y)) ∧ Below w.heap.size w w' := by
  have hA : ∀ ob, Below w.heap.size w (w.alloc ob) := fun ob => (Below.refl _ _).alloc (Nat.le_refl _) _
  unfold keyOk
  by_cases h1 : 1 ≤ x
  · by_cases h2 : x < 2147483647
    · by_cases h3 : 1 ≤ y
      · rw [decide_eq_true h1, decide_eq_true h2, decide_eq_true h3, Bool.true_and, Bool.true_and, Bool.true_and]
        go_enter Tryd.func14, Tryd.ntmps14
        go_wp2
        go_ret
        exact ⟨rfl, hA _⟩
      · rw [decide_eq_false h3, Bool.false_and, Bool.and_false, Bool.and_false]
        go_enter Tryd.func14, Tryd.ntmps14
        go_wp2
        go_ret
        exact ⟨rfl, hA _⟩
    · rw [decide_eq_false h2, Bool.false_and, Bool.and_false]
      go_enter Tryd.func14, Tryd.ntmps14
      go_wp2
      go_ret
      exact ⟨rfl, hA _⟩
  · rw [decide_eq_false h1, Bool.false_and]
    go_enter Tryd.func14, Tryd.ntmps14
    go_wp2
    go_ret
    exact ⟨rfl, hA _⟩
abbrev sumV (a b : Nat) : Value := .agg #[.int .i64 a, .int .i64 b]
/-- The world that the specification's SumOf begins in: its key's block, its result's. -/
abbrev sumW (d s : ByteArray) (x y : Int) (w : World) : World := (w.alloc (.cells #[.string d, .string s, .int .i64 x, .int .i64 y] 37)).alloc (.cells #[.int .i64 0, .int .i64 0] 96)
theorem sumW_facts (d s : ByteArray) (x y : Int) (w : World) : (sumW d s x y w).heap[w.heap.size]? = some (.cells #[.string d, .string s, .int .i64 x, .int .i64 y] 37 (0, 0)) ∧ (sumW d s x y w).heap[w.heap.size + 1]? = some (.cells #[.int .i64 0, .int .i64 0] 96 (0, 0)) ∧
    (sumW d s x y w).heap.size = w.heap.size + 2 ∧ Below w.heap.size w (sumW d s x y w) := by
  refine ⟨?_, ?_, by simp, ((Below.refl _ _).alloc (Nat.le_refl _) _).alloc (by simp) _⟩
  · exact (heap_alloc_old _ _ _ (by simp)).trans (heap_alloc_at _ _)
  · have := heap_alloc_at (w.alloc (.cells #[.string d, .string s, .int .i64 x, .int .i64 y] 37)) (.cells #[.int .i64 0, .int .i64 0] 96)
    simpa using this
theorem wi64 (x : Int) (h0 : -9223372036854775808 ≤ x) (h1 : x ≤ 9223372036854775807) : IntKind.i64.wrap x = x := by
  unfold IntKind.wrap
  simp [IntKind.bits, IntKind.signed]
  omega
theorem mul_bound (a A : Nat) (ha : a < 2147483647) (hA : A < 2147483647) : a * A ≤ 4611686009837453316 := by
  have := Nat.mul_le_mul (show a ≤ 2147483646 by omega) (show A ≤ 2147483646 by omega)
  omega
end Go.Proofs.YtmpeflmfglbnnaaDoor
