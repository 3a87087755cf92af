
/- A signature's value up to its head's sum, the specification's side. -/
import Derived.Test.YtgabjiamabbheaaGreatDoorSignBoth
import Derived.Test.YtgabjiamabbheaaGreatDoorShowDec
import Derived.Lib.QuietBelow
import Derived.Deep.QuietTactic
import Derived.BigQuiet
namespace Go.Proofs.YtgabjiamabbheaaGreatDoor
open Go.RowKit Go.Lib
/-- Texts with a colon between. -/
def jc : List ByteArray → List UInt8
  | [] => []
  | t :: r => t.data.toList ++ (match r with | [] => [] | _ :: _ => 58 :: jc r)
set_option maxRecDepth 20000 in
theorem jc_snoc : ∀ (F : List ByteArray) (t : ByteArray), F ≠ [] → jc (F ++ [t]) = jc F ++ 58 :: t.data.toList
  | [], _, h => absurd rfl h
  | [a], t, _ => by simp [jc]
  | a :: b :: r, t, _ => by
    have ih := jc_snoc (b :: r) t (by simp)
    show jc (a :: b :: (r ++ [t])) = _
    rw [jc]
    have e : b :: (r ++ [t]) = (b :: r) ++ [t] := rfl
    rw [e]
    show a.data.toList ++ 58 :: jc ((b :: r) ++ [t]) = _
    rw [ih, jc]
    simp
set_option maxRecDepth 20000 in
theorem jc_next (T : List ByteArray) (i : Nat) (h : i < T.length) : jc (T.take (i + 1)) = if i = 0 then T[i].data.toList else jc (T.take i) ++ 58 :: T[i].data.toList := by
  rw [List.take_succ_eq_append_getElem h]
  by_cases h0 : i = 0
  · subst h0
    simp [jc]
  · rw [if_neg h0, jc_snoc]
    intro e
    have := congrArg List.length e
    rw [List.length_take, Nat.min_eq_left (Nat.le_of_lt h)] at this
    exact h0 this
def formT (h : Int) : ByteArray := if h = 1 then ⟨#[114, 101, 108, 97, 120, 101, 100]⟩ else ⟨#[115, 105, 109, 112, 108, 101]⟩
set_option maxRecDepth 20000 in
theorem specFormT (h : Int) (hh : h = 0 ∨ h = 1) (w : World) : Calls Tryz.prog 40 #[.int .i64 h] w fun e w' => e = .returned (.string (formT h)) ∧ Below w.heap.size w w' := by
  have hA : ∀ ob, Below w.heap.size w (w.alloc ob) := fun ob => (Below.refl _ _).alloc (Nat.le_refl _) _
  rcases hh with rfl | rfl
  · go_enter Tryz.func40, Tryz.ntmps40
    go_wp2
    go_ret
    exact ⟨rfl, hA _⟩
  · go_enter Tryz.func40, Tryz.ntmps40
    go_wp2
    go_ret
    exact ⟨rfl, hA _⟩
def sumT (a b : Nat) : ByteArray := ⟨(decDigits a).toArray⟩ ++ ⟨#[45]⟩ ++ ⟨(decDigits b).toArray⟩
set_option maxRecDepth 20000 in
theorem dec_size (n : Nat) (h : n ≤ 2200000000) : (⟨(decDigits n).toArray⟩ : ByteArray).size ≤ 2200000001 := by
  have := dec_len n
  show (decDigits n).toArray.size ≤ _
  rw [List.size_toArray]
  omega
set_option maxRecDepth 20000 in
set_option maxHeartbeats 1000000 in
theorem specSumT (a b : Nat) (ha : a < 2147483647) (hb : b < 2147483647) (w : World) : Calls Tryz.prog 16 #[sumV a b] w fun e w' => e = .returned (.string (sumT a b)) ∧ Below w.heap.size w w' := by
  have hz1 := dec_size a (by omega)
  have hz2 := dec_size b (by omega)
  have hA := fun w => specDec a (by omega) w
  have hB := fun w => specDec b (by omega) w
  unfold sumT
  generalize (⟨(decDigits a).toArray⟩ : ByteArray) = ta at *
  generalize (⟨(decDigits b).toArray⟩ : ByteArray) = tb at *
  obtain ⟨W, hW⟩ : ∃ W, W = w.alloc (.cells #[.int .i64 a, .int .i64 b] 44) := ⟨_, rfl⟩
  have hbW : Below w.heap.size w W := by rw [hW]; exact (Below.refl _ _).alloc (Nat.le_refl _) _
  have q0 : W.cell? ⟨w.heap.size, 0, none⟩ = some (.int .i64 a) := by rw [hW]; simp
  have q1 : W.cell? ⟨w.heap.size, 1, none⟩ = some (.int .i64 b) := by rw [hW]; simp
  have k0 := cell_regrown q0
  have k1 := cell_regrown q1
  have cA : ∀ d os, Calls Tryz.prog 43 #[.int .i64 a] (Go.Sort.grow (redrawn W d) os) fun e w'' => e = .returned (.string ta) ∧ ∃ p : Regrown, w'' = Go.Sort.grow (redrawn W p.d) p.os := fun d os => Calls.regrown_of (hA _)
  have cB : ∀ d os, Calls Tryz.prog 43 #[.int .i64 b] (Go.Sort.grow (redrawn W d) os) fun e w'' => e = .returned (.string tb) ∧ ∃ p : Regrown, w'' = Go.Sort.grow (redrawn W p.d) p.os := fun d os => Calls.regrown_of (hB _)
  have CA := (show Hid _ from cA)
  have CB := (show Hid _ from cB)
  clear cA cB hA hB
  have n0 : ¬ 9223372036854775807 < ta.size + 1 := by omega
  have n1 : ¬ 9223372036854775807 < ta.size + 1 + tb.size := by omega
  go_enter Tryz.func16, Tryz.ntmps16
  go_wp2
  rw [← hW]
  clear hW
  refine wp_region_quiet_below (by kernel_rfl) (by kernel_rfl) ?_
  quiet_step (fail)
  quiet_step (fail)
  quiet_step (exact CA.out _ _)
  quiet_step (fail)
  quiet_step (fail)
  quiet_step (fail)
  quiet_step (exact CB.out _ _)
  repeat (quiet_step (fail))
  refine wpQuiet_nil ?_
  intro _ hw'
  obtain ⟨⟨dq, osq⟩, hw''⟩ := hw'
  subst hw''
  have hbq := hbW.trans ((below_regrown W dq osq).mono hbW.size)
  go_wp2
  go_ret
  exact ⟨rfl, hbq⟩
end Go.Proofs.YtgabjiamabbheaaGreatDoor
