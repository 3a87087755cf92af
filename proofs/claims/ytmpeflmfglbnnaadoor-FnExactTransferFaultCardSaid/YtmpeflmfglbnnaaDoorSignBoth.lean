
/- SignerFault, both sides. -/
import Derived.Test.YtmpeflmfglbnnaaDoorSignTests
import Derived.Test.YtmpeflmfglbnnaaDoorTexts
import Derived.Test.YtmpeflmfglbnnaaDoorCells
namespace Go.Proofs.YtmpeflmfglbnnaaDoor
open Go.RowKit Go.Lib
def nameB (t : ByteArray) : Bool := Pl.sNameOk t.data.toList
theorem Pl.all_stepT (K : ByteArray → Bool) (F : List ByteArray) (k : Nat) (h : k < F.length) : (F.drop k).all K = (K F[k] && (F.drop (k + 1)).all K) := by
  rw [List.drop_eq_getElem_cons h, List.all_cons]
/-- Whether a signer is right. -/
def signerOk (d s : ByteArray) (A B : Int) (F : List ByteArray) (h b : Int) : Bool :=
  Pl.domOk d.data.toList && (Pl.selOk s.data.toList && (keyOk A B && (decide (h = 0 ∨ h = 1) && (decide (b = 0 ∨ b = 1) && (decide (1 ≤ F.length) && (decide (F.length ≤ 30) && F.all nameB))))))
abbrev sgV (d s : ByteArray) (A B : Int) (v : Value) (h b : Int) : Value := .agg #[.string d, .string s, .int .i64 A, .int .i64 B, v, .int .i64 h, .int .i64 b]
theorem sg_cells {w : World} {g : Nat} {d s : ByteArray} {A B h b : Int} {v : Value} {t : TypeId} (hk : w.heap[g]? = some (.cells #[.string d, .string s, .int .i64 A, .int .i64 B, v, .int .i64 h, .int .i64 b] t (0, 0))) :
    w.cell? ⟨g, 0, none⟩ = some (.string d) ∧ w.cell? ⟨g, 1, none⟩ = some (.string s) ∧ w.cell? ⟨g, 2, none⟩ = some (.int .i64 A) ∧ w.cell? ⟨g, 3, none⟩ = some (.int .i64 B) ∧ w.cell? ⟨g, 4, none⟩ = some v ∧ w.cell? ⟨g, 5, none⟩ = some (.int .i64 h) ∧ w.cell? ⟨g, 6, none⟩ = some (.int .i64 b) := by
  refine ⟨?_, ?_, ?_, ?_, ?_, ?_, ?_⟩ <;> simp [World.cell?, hk]
theorem implFactor (x : Int) (w : World) : Calls Tryd.prog 41 #[.int .i64 x] w fun e w' => e = .returned (.bool (decide (1 ≤ x) && decide (x < 2147483647))) ∧ w = w' := by
  by_cases h1 : 1 ≤ x
  · rw [decide_eq_true h1, Bool.true_and]
    go_enter Tryd.func41, Tryd.ntmps41
    go_wp2
    go_ret
    exact ⟨rfl, rfl⟩
  · rw [decide_eq_false h1, Bool.false_and]
    go_enter Tryd.func41, Tryd.ntmps41
    go_wp2
    go_ret
    exact ⟨rfl, rfl⟩
set_option maxHeartbeats 1000000 in
theorem implRight (d s : ByteArray) (x y : Int) (w : World) :
    Calls Tryd.prog 32 #[keyV d s x y] w fun e w' => e = .returned (.bool (keyOk x y)) ∧ Below w.heap.size w w' := by
  have hA : ∀ ob, Below w.heap.size w (w.alloc ob) := fun ob => (Below.refl _ _).alloc (Nat.le_refl _) _
  have hX := fun w => implFactor x w
  have hY := fun w => implFactor y w
  unfold keyOk
  rw [← Bool.and_assoc]
  generalize (decide (1 ≤ x) && decide (x < 2147483647)) = bx at *
  generalize (decide (1 ≤ y) && decide (y < 2147483647)) = by' at *
  cases bx
  · rw [Bool.false_and]
    go_enter Tryd.func32, Tryd.ntmps32
    go_wp2_with fail
    refine (hX _).mono ?_
    rintro e w2 ⟨rfl, rfl⟩
    go_wp2
    go_ret
    exact ⟨rfl, hA _⟩
  · rw [Bool.true_and]
    go_enter Tryd.func32, Tryd.ntmps32
    go_wp2_with fail
    refine (hX _).mono ?_
    rintro e w2 ⟨rfl, rfl⟩
    go_wp2_with fail
    refine (hY _).mono ?_
    rintro e w2 ⟨rfl, rfl⟩
    go_wp2
    go_ret
    exact ⟨rfl, hA _⟩
end Go.Proofs.YtmpeflmfglbnnaaDoor
