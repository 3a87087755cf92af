
/- The program's test of a node's kids: the kinds with so many of them. -/
import Derived.Test.YtonnmbkfjiddnaaNodeRKids
namespace Go.Proofs.Ytonnmbkfjiddnaa
open Go.RowKit Go.Lib Go.Maps
namespace Fn
def elseOk : List Int → Bool
  | [] => true
  | [z] => (z == 1) || (z == 2)
  | _ => false
theorem kids22a (x : Int) : kidsOk 22 [x] = isTest x := by
  simp [kidsOk, kidsFrom, kidOk, least]
theorem kids22b (x y : Int) (r : List Int) : kidsOk 22 (x :: y :: r) = false := by
  simp [kidsOk, kidsFrom, kidOk]
theorem kids22c : kidsOk 22 [] = false := rfl
theorem kids3 (ks : List Int) : kidsOk 3 ks = decide (ks = [1]) := by
  match ks with
  | [] => rfl
  | [x] => simp [kidsOk, kidsFrom, kidOk, least]; by_cases h : x = 1 <;> simp [h]
  | x :: y :: r => simp [kidsOk, kidsFrom, kidOk]
theorem kids2a (x y : Int) (r : List Int) : kidsOk 2 (x :: y :: r) = (isTest x && ((y == 1) && elseOk r)) := by
  match r with
  | [] => simp [kidsOk, kidsFrom, kidOk, least, elseOk]
  | [z] => simp [kidsOk, kidsFrom, kidOk, least, elseOk]
  | z :: u :: s => simp [kidsOk, kidsFrom, kidOk, elseOk]
theorem kids2b (x : Int) : kidsOk 2 [x] = false := by simp [kidsOk, least]
theorem kids2c : kidsOk 2 [] = false := rfl
end Fn
theorem ints_at0 {B : Nat} {w : World} {o : Option Addr} {x : Int} {r : List Int} (h : Ints B w o (x :: r)) : ∃ a, o = some a ∧ w.cell? a = some (.int .i64 x) := by
  obtain ⟨a, rfl, ha, hc⟩ := h 0 (by simp)
  refine ⟨a, rfl, ?_⟩
  have e0 : a.add 0 = a := by simp [Addr.add]
  rwa [e0] at hc
set_option maxHeartbeats 1000000 in
theorem implRK22 (o : Option Addr) (ks : List Int) (cap : Nat) (w : World) (hk : Ints w.heap.size w o ks) (hl : ks.length ≤ 1048576) :
    Calls Try.prog 53 #[.int .i64 22, .slice o ks.length cap] w fun e w' => e = .returned (.bool (Fn.kidsOk 22 ks)) ∧ Below w.heap.size w w' := by
  match ks, hk, hl with
  | [], hk, hl =>
    clear hk
    go_enter Try.func53, Try.ntmps53
    go_wp2
    go_ret
    exact ⟨rfl, Below.refl _ _⟩
  | [x], hk, hl =>
    obtain ⟨a, rfl, hc⟩ := ints_at0 hk
    have hT := mkH (implIsTest x w)
    rw [Fn.kids22a]
    generalize Fn.isTest x = b at *
    clear hk
    go_enter Try.func53, Try.ntmps53
    go_wp2_with fail
    refine hT.out.mono ?_
    rintro e w2 ⟨rfl, rfl⟩
    go_wp2
    go_ret
    exact ⟨rfl, Below.refl _ _⟩
  | x :: y :: r, hk, hl =>
    rw [Fn.kids22b]
    have hne : (((x :: y :: r).length : Int) == 1) = false := by simp; omega
    clear hk
    generalize (x :: y :: r).length = m at *
    go_enter Try.func53, Try.ntmps53
    go_wp2
    go_ret
    exact ⟨rfl, Below.refl _ _⟩
set_option maxHeartbeats 1000000 in
theorem implRK3 (o : Option Addr) (ks : List Int) (cap : Nat) (w : World) (hk : Ints w.heap.size w o ks) (hl : ks.length ≤ 1048576) :
    Calls Try.prog 53 #[.int .i64 3, .slice o ks.length cap] w fun e w' => e = .returned (.bool (Fn.kidsOk 3 ks)) ∧ Below w.heap.size w w' := by
  have hbA : Below w.heap.size w (w.alloc (.cells #[.int .i64 1] 2)) := (Below.refl _ _).alloc (Nat.le_refl _) _
  have h1 : Ints (w.alloc (.cells #[.int .i64 1] 2)).heap.size (w.alloc (.cells #[.int .i64 1] 2)) (some ⟨w.heap.size, 0, none⟩) [1] := by
    intro k hk
    obtain rfl : k = 0 := by simpa using hk
    exact ⟨_, rfl, by simp, by rw [add_off]; simp⟩
  have hE := mkH (implEqual o (some ⟨w.heap.size, 0, none⟩) ks [1] cap 1 (w.alloc (.cells #[.int .i64 1] 2)) ((hk.below hbA).mono hbA.size) h1 hl (by simp))
  rw [Fn.kids3]
  generalize decide (ks = [1]) = b at *
  have hs : w.heap.size ≤ (w.alloc (.cells #[.int .i64 1] 2)).heap.size := hbA.size
  clear hk h1
  go_enter Try.func53, Try.ntmps53
  go_wp2_with fail
  refine hE.out.mono ?_
  rintro e w2 ⟨rfl, hb2⟩
  have hfin := mkH (hbA.trans (hb2.mono hs))
  clear hE hb2
  go_wp2
  go_ret
  exact ⟨rfl, hfin.out⟩
set_option maxHeartbeats 1000000 in
theorem implElse (o : Option Addr) (r : List Int) (cap : Nat) (w : World) (hk : Ints w.heap.size w o r) (hl : r.length ≤ 1048576) :
    Calls Try.prog 71 #[.slice o r.length cap] w fun e w' => e = .returned (.bool (Fn.elseOk r)) ∧ w = w' := by
  match r, hk, hl with
  | [], hk, hl =>
    clear hk
    go_enter Try.func71, Try.ntmps71
    go_wp2
    go_ret
    exact ⟨rfl, rfl⟩
  | [z], hk, hl =>
    obtain ⟨a, rfl, hc⟩ := ints_at0 hk
    show Calls _ _ _ _ fun e w' => e = .returned (.bool ((z == 1) || (z == 2))) ∧ w = w'
    clear hk
    by_cases h1 : z = 1
    · have e1 : (z == 1) = true := by simpa using h1
      rw [e1]
      clear h1
      go_enter Try.func71, Try.ntmps71
      go_wp2
      go_ret
      exact ⟨rfl, rfl⟩
    · have e1 : (z == 1) = false := by simpa using h1
      rw [e1]
      clear h1
      go_enter Try.func71, Try.ntmps71
      go_wp2
      go_ret
      exact ⟨rfl, rfl⟩
  | x :: y :: s, hk, hl =>
    show Calls _ _ _ _ fun e w' => e = .returned (.bool false) ∧ w = w'
    have hne : (((x :: y :: s).length : Int) == 1) = false := by simp; omega
    have hne0 : (((x :: y :: s).length : Int) == 0) = false := by simp; omega
    clear hk
    generalize (x :: y :: s).length = m at *
    go_enter Try.func71, Try.ntmps71
    go_wp2
    go_ret
    exact ⟨rfl, rfl⟩
end Go.Proofs.Ytonnmbkfjiddnaa
