/- Piece: both sides. -/
import Derived.Test.YtmkdgkelfpnmeaaRows
import Derived.WalkKit
import Derived.ProofKit
import Derived.Below
import Derived.Test.YtmkdgkelfpnmeaaShelf
import Derived.ChangeOld
namespace Go.Proofs.Ytmkdgkelfpnmeaa
open Go.RowKit Go.Lib
set_option linter.unusedVariables false

theorem specNeg (a : ByteArray) (x y : Int) (w : World) (h : a.size ≤ 1048576) (hx : x < 0) :
    Calls Try.prog 4 #[.string a, .int .i64 x, .int .i64 y] w fun e w' => e = .returned (.string ByteArray.empty) ∧ w' = w := by
  go_enter Try.func4, Try.ntmps4
  go_wp2
  go_ret
  exact ⟨rfl, rfl⟩

theorem specNegC (a : ByteArray) (x : Nat) (y : Int) (w : World) (h : a.size ≤ 1048576) (hy : y < 0) :
    Calls Try.prog 4 #[.string a, .int .i64 x, .int .i64 y] w fun e w' => e = .returned (.string ByteArray.empty) ∧ w' = w := by
  go_enter Try.func4, Try.ntmps4
  go_wp2
  go_ret
  exact ⟨rfl, rfl⟩

theorem specBehind (a : ByteArray) (x y : Nat) (w : World) (h : a.size ≤ 1048576) (hx : a.size ≤ x) :
    Calls Try.prog 4 #[.string a, .int .i64 x, .int .i64 y] w fun e w' => e = .returned (.string ByteArray.empty) ∧ w' = w := by
  go_enter Try.func4, Try.ntmps4
  go_wp2
  go_ret
  exact ⟨rfl, rfl⟩

theorem specLong (a : ByteArray) (x y : Nat) (w : World) (h : a.size ≤ 1048576) (hx : x < a.size) (hl : 100000 < a.size) :
    Calls Try.prog 4 #[.string a, .int .i64 x, .int .i64 y] w fun e w' => e = .returned (.string ByteArray.empty) ∧ w' = w := by
  go_enter Try.func4, Try.ntmps4
  go_wp2
  go_ret
  exact ⟨rfl, rfl⟩

theorem specCut (a : ByteArray) (x y : Nat) (w : World) (h : a.size ≤ 1048576) (hx : x < a.size) (hl : a.size ≤ 100000) (hy : a.size < x + y) :
    Calls Try.prog 4 #[.string a, .int .i64 x, .int .i64 y] w fun e w' => e = .returned (.string (a.extract x a.size)) ∧ w' = w := by
  have h1 : (a.size : Int) - (x : Int) < y := by omega
  have h2 : (x : Int) + ((a.size : Int) - (x : Int)) = a.size := by omega
  have h3 : x ≤ a.size := by omega
  go_enter Try.func4, Try.ntmps4
  go_wp2
  go_ret
  exact ⟨rfl, rfl⟩

theorem specAll (a : ByteArray) (x y z : Nat) (w : World) (h : a.size ≤ 1048576) (hx : x < a.size) (hl : a.size ≤ 100000) (hy : z ≤ a.size) (hz : z = x + y) :
    Calls Try.prog 4 #[.string a, .int .i64 x, .int .i64 y] w fun e w' => e = .returned (.string (a.extract x z)) ∧ w' = w := by
  have h1 : ¬ (a.size : Int) - (x : Int) < y := by omega
  have h2 : (x : Int) + (y : Int) = (z : Int) := by omega
  have h3 : x ≤ z := by omega
  clear hz
  go_enter Try.func4, Try.ntmps4
  go_wp2
  go_ret
  exact ⟨rfl, rfl⟩

theorem clone (a : ByteArray) (w : World) (h : a.size ≤ 1048576) :
    Calls Try.prog 7 #[.string a] w fun e w' => e = .returned (.string a) ∧ Below w.heap.size w w' := by
  go_enter Try.func7, Try.ntmps7
  go_wp2_with fail
  refine (Try.stringslite_Clone a _ (by omega)).mono ?_
  rintro e w1 ⟨rfl, hb⟩
  go_wp2
  go_ret
  exact ⟨rfl, hb⟩

theorem notLong (a : ByteArray) (w : World) (hl : a.size ≤ 100000) :
    Calls Try.prog 6 #[.string a] w fun e w' => e = .returned (.bool false) ∧ w' = w := by
  go_enter Try.func6, Try.ntmps6
  go_wp2
  go_ret
  exact ⟨by simp; omega, rfl⟩

theorem isLong (a : ByteArray) (w : World) (h : a.size ≤ 1048576) (hl : 100000 < a.size) :
    Calls Try.prog 6 #[.string a] w fun e w' => e = .returned (.bool true) ∧ w' = w := by
  go_enter Try.func6, Try.ntmps6
  go_wp2
  go_ret
  exact ⟨by simp; omega, rfl⟩

theorem cut_all (a : ByteArray) (x y z : Nat) (hz : z = x + y) (hy : z ≤ a.size) : (a.extract x a.size).extract 0 y = a.extract x z := by
  subst hz
  rw [ByteArray.extract_extract, Nat.min_eq_left hy, Nat.add_zero]

theorem implAll (a : ByteArray) (x y z : Nat) (w : World) (h : a.size ≤ 1048576) (hx : x < a.size) (hl : a.size ≤ 100000) (hy : z ≤ a.size) (hz : z = x + y) :
    Calls Try.prog 5 #[.string a, .int .i64 x, .int .i64 y] w fun e w' => e = .returned (.string (a.extract x z)) ∧ Below w.heap.size w w' := by
  have h1 : min (y : Int) ((a.size : Int) - (x : Int)) = y := by omega
  have h3 : x ≤ a.size := by omega
  have h4 : y ≤ a.size - x := by omega
  have hc := cut_all a x y z hz hy
  clear hz
  go_enter Try.func5, Try.ntmps5
  go_wp2_with fail
  refine (notLong a _ hl).mono ?_
  rintro e w1 ⟨rfl, rfl⟩
  go_wp2_with fail
  refine (clone _ _ (by simp only [ByteArray.size_extract]; omega)).mono ?_
  rintro e w2 ⟨rfl, hb⟩
  go_wp2
  go_ret
  exact ⟨rfl, hb⟩

theorem implCut (a : ByteArray) (x y : Nat) (w : World) (h : a.size ≤ 1048576) (hx : x < a.size) (hl : a.size ≤ 100000) (hy : a.size < x + y) :
    Calls Try.prog 5 #[.string a, .int .i64 x, .int .i64 y] w fun e w' => e = .returned (.string (a.extract x a.size)) ∧ Below w.heap.size w w' := by
  obtain ⟨d, hd⟩ : ∃ d : Nat, a.size = x + d := ⟨a.size - x, by omega⟩
  have h1 : min (y : Int) ((a.size : Int) - (x : Int)) = d := by omega
  have h3 : x ≤ a.size := by omega
  have h4 : d ≤ a.size - x := by omega
  have hc := cut_all a x d a.size hd (by omega)
  clear hd
  go_enter Try.func5, Try.ntmps5
  go_wp2_with fail
  refine (notLong a _ hl).mono ?_
  rintro e w1 ⟨rfl, rfl⟩
  go_wp2_with fail
  refine (clone _ _ (by simp only [ByteArray.size_extract]; omega)).mono ?_
  rintro e w2 ⟨rfl, hb⟩
  go_wp2
  go_ret
  exact ⟨rfl, hb⟩

theorem implLong (a : ByteArray) (x y : Int) (w : World) (h : a.size ≤ 1048576) (hl : 100000 < a.size) :
    Calls Try.prog 5 #[.string a, .int .i64 x, .int .i64 y] w fun e w' => e = .returned (.string ByteArray.empty) ∧ w' = w := by
  go_enter Try.func5, Try.ntmps5
  go_wp2_with fail
  refine (isLong a _ h hl).mono ?_
  rintro e w1 ⟨rfl, rfl⟩
  go_wp2
  go_ret
  exact ⟨rfl, rfl⟩

theorem implNeg (a : ByteArray) (x y : Int) (w : World) (h : a.size ≤ 100000) (hx : x < 0) :
    Calls Try.prog 5 #[.string a, .int .i64 x, .int .i64 y] w fun e w' => e = .returned (.string ByteArray.empty) ∧ w' = w := by
  go_enter Try.func5, Try.ntmps5
  go_wp2_with fail
  refine (notLong a _ h).mono ?_
  rintro e w1 ⟨rfl, rfl⟩
  go_wp2
  go_ret
  exact ⟨rfl, rfl⟩

theorem implNegC (a : ByteArray) (x : Nat) (y : Int) (w : World) (h : a.size ≤ 100000) (hy : y < 0) :
    Calls Try.prog 5 #[.string a, .int .i64 x, .int .i64 y] w fun e w' => e = .returned (.string ByteArray.empty) ∧ w' = w := by
  go_enter Try.func5, Try.ntmps5
  go_wp2_with fail
  refine (notLong a _ h).mono ?_
  rintro e w1 ⟨rfl, rfl⟩
  go_wp2
  go_ret
  exact ⟨rfl, rfl⟩

theorem implBehind (a : ByteArray) (x y : Nat) (w : World) (h : a.size ≤ 100000) (hx : a.size ≤ x) :
    Calls Try.prog 5 #[.string a, .int .i64 x, .int .i64 y] w fun e w' => e = .returned (.string ByteArray.empty) ∧ w' = w := by
  go_enter Try.func5, Try.ntmps5
  go_wp2_with fail
  refine (notLong a _ h).mono ?_
  rintro e w1 ⟨rfl, rfl⟩
  go_wp2
  go_ret
  exact ⟨rfl, rfl⟩

def pieceV (a : ByteArray) (x y : Int) : ByteArray :=
  if x < 0 ∨ y < 0 ∨ (a.size : Int) ≤ x ∨ 100000 < a.size then ByteArray.empty else a.extract x.toNat (if (a.size : Int) < x + y then a.size else (x + y).toNat)

theorem specPiece (a : ByteArray) (x y : Int) (w : World) (h : a.size ≤ 1048576) :
    Calls Try.prog 4 #[.string a, .int .i64 x, .int .i64 y] w fun e w' => e = .returned (.string (pieceV a x y)) ∧ w' = w := by
  unfold pieceV
  by_cases h1 : x < 0
  · rw [if_pos (by omega)]; exact specNeg a x y w h h1
  obtain ⟨u, rfl⟩ : ∃ u : Nat, x = u := ⟨x.toNat, by omega⟩
  by_cases h2 : y < 0
  · rw [if_pos (by omega)]; exact specNegC a u y w h h2
  obtain ⟨v, rfl⟩ : ∃ v : Nat, y = v := ⟨y.toNat, by omega⟩
  by_cases h3 : a.size ≤ u
  · rw [if_pos (by omega)]; exact specBehind a u v w h h3
  by_cases h4 : 100000 < a.size
  · rw [if_pos (by omega)]; exact specLong a u v w h (by omega) h4
  rw [if_neg (by omega)]
  by_cases h5 : a.size < u + v
  · rw [if_pos (by omega)]; exact specCut a u v w h (by omega) (by omega) h5
  · rw [if_neg (by omega)]; exact specAll a u v _ w h (by omega) (by omega) (by omega) (by omega)

theorem implPiece (a : ByteArray) (x y : Int) (w : World) (h : a.size ≤ 1048576) :
    Calls Try.prog 5 #[.string a, .int .i64 x, .int .i64 y] w fun e w' => e = .returned (.string (pieceV a x y)) ∧ Below w.heap.size w w' := by
  have still : ∀ v, (Calls Try.prog 5 #[.string a, .int .i64 x, .int .i64 y] w fun e w' => e = .returned (.string v) ∧ w' = w) → Calls Try.prog 5 #[.string a, .int .i64 x, .int .i64 y] w fun e w' => e = .returned (.string v) ∧ Below w.heap.size w w' :=
    fun v hh => hh.mono (by rintro e w1 ⟨rfl, rfl⟩; exact ⟨rfl, Below.refl _ _⟩)
  unfold pieceV
  by_cases h4 : 100000 < a.size
  · rw [if_pos (by omega)]; exact still _ (implLong a x y w h h4)
  by_cases h1 : x < 0
  · rw [if_pos (by omega)]; exact still _ (implNeg a x y w (by omega) h1)
  obtain ⟨u, rfl⟩ : ∃ u : Nat, x = u := ⟨x.toNat, by omega⟩
  by_cases h2 : y < 0
  · rw [if_pos (by omega)]; exact still _ (implNegC a u y w (by omega) h2)
  obtain ⟨v, rfl⟩ : ∃ v : Nat, y = v := ⟨y.toNat, by omega⟩
  by_cases h3 : a.size ≤ u
  · rw [if_pos (by omega)]; exact still _ (implBehind a u v w (by omega) h3)
  rw [if_neg (by omega)]
  by_cases h5 : a.size < u + v
  · rw [if_pos (by omega)]; exact implCut a u v w h (by omega) (by omega) h5
  · rw [if_neg (by omega)]; exact implAll a u v _ w h (by omega) (by omega) (by omega) (by omega)
end Go.Proofs.Ytmkdgkelfpnmeaa
