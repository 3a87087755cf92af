
/- The program's test of a node's kids: an if; all kinds. -/
import Derived.Test.YtonnmbkfjiddnaaNodeRKids2
namespace Go.Proofs.Ytonnmbkfjiddnaa
open Go.RowKit Go.Lib Go.Maps
theorem add_add (a : Addr) (i j : Nat) : (a.add i).add j = a.add (i + j) := by
  unfold Addr.add
  by_cases hi : i = 0
  · subst hi; simp
  · by_cases hj : j = 0
    · subst hj; simp
    · simp [hi, hj]
      try omega
set_option maxHeartbeats 1000000 in
theorem implRK2 (o : Option Addr) (ks : List Int) (cap : Nat) (w : World) (hk : Ints w.heap.size w o ks) (hl : ks.length ≤ 1048576) (hcap : ks.length ≤ cap) :
    Calls Try.prog 53 #[.int .i64 2, .slice o ks.length cap] w fun e w' => e = .returned (.bool (Fn.kidsOk 2 ks)) ∧ Below w.heap.size w w' := by
  match ks, hk, hl, hcap with
  | [], hk, hl, hcap =>
    clear hk
    go_enter Try.func53, Try.ntmps53
    go_wp2
    go_ret
    exact ⟨rfl, Below.refl _ _⟩
  | [x], hk, hl, hcap =>
    rw [Fn.kids2b]
    clear hk
    go_enter Try.func53, Try.ntmps53
    go_wp2
    go_ret
    exact ⟨rfl, Below.refl _ _⟩
  | x :: y :: r, hk, hl, hcap =>
    obtain ⟨a, rfl, hc0⟩ := ints_at0 hk
    obtain ⟨a', e, ha, hc1⟩ := hk 1 (by simp)
    cases e
    have hc1 : w.cell? ⟨a.block, a.off + 1, none⟩ = some (.int .i64 y) := hc1
    have hlen : (x :: y :: r).length = r.length + 2 := rfl
    rw [hlen] at hcap hl ⊢
    have hT := mkH (implIsTest x w)
    rw [Fn.kids2a]
    have hE : Hid (∀ o' c, (o' = some (a.add 2) ∨ r = []) → Calls Try.prog 71 #[.slice o' r.length c] w fun e w' => e = .returned (.bool (Fn.elseOk r)) ∧ w = w') := by
      intro o' c ho
      refine implElse o' r c w ?_ (by omega)
      intro k hk'
      rcases ho with rfl | rfl
      · obtain ⟨b, eb, hb, hcb⟩ := hk (k + 2) (by simp; omega)
        cases eb
        refine ⟨_, rfl, by rw [add_blockN]; exact hb, ?_⟩
        rw [add_add, Nat.add_comm 2 k]
        exact hcb
      · simp at hk'
    clear hk
    generalize Fn.isTest x = b at *
    generalize Fn.elseOk r = c at *
    cases b
    · go_enter Try.func53, Try.ntmps53
      go_wp2_with fail
      refine hT.out.mono ?_
      rintro e w2 ⟨rfl, rfl⟩
      go_wp2_with fail
      go_ret
      exact ⟨rfl, Below.refl _ _⟩
    · by_cases hy : y = 1
      · have y1 : (y == 1) = true := by simpa using hy
        rw [y1]
        clear hy
        go_enter Try.func53, Try.ntmps53
        go_wp2_with fail
        refine hT.out.mono ?_
        rintro e w2 ⟨rfl, rfl⟩
        go_wp2_with fail
        all_goals
          refine (hE.out _ _ (by first | exact .inl rfl | exact .inr (List.length_eq_zero_iff.1 (by omega)))).mono ?_
          rintro e w2 ⟨rfl, rfl⟩
          go_wp2
          go_ret
          exact ⟨rfl, Below.refl _ _⟩
      · have y1 : (y == 1) = false := by simpa using hy
        rw [y1]
        clear hy
        go_enter Try.func53, Try.ntmps53
        go_wp2_with fail
        refine hT.out.mono ?_
        rintro e w2 ⟨rfl, rfl⟩
        go_wp2_with fail
        go_ret
        exact ⟨rfl, Below.refl _ _⟩
/-- The kids' kinds of a node. -/
theorem implRKids (kd : Int) (o : Option Addr) (ks : List Int) (cap : Nat) (w : World) (hk : Ints w.heap.size w o ks) (hl : ks.length ≤ 1048576) (hcap : ks.length ≤ cap) :
    Calls Try.prog 53 #[.int .i64 kd, .slice o ks.length cap] w fun e w' => e = .returned (.bool (Fn.kidsOk kd ks)) ∧ Below w.heap.size w w' := by
  by_cases x1 : kd = 1
  · subst x1; exact implRK1 o ks cap w hk hl
  by_cases x2 : kd = 2
  · subst x2; exact implRK2 o ks cap w hk hl hcap
  by_cases x3 : kd = 3
  · subst x3; exact implRK3 o ks cap w hk hl
  by_cases x22 : kd = 22
  · subst x22; exact implRK22 o ks cap w hk hl
  by_cases x23 : kd = 23
  · subst x23; exact implRK23 o ks cap w hk hl
  by_cases x24 : kd = 24
  · subst x24; exact implRK24 o ks cap w hk hl
  exact implRKno kd o ks cap w (by simpa using x1) (by simpa using x2) (by simpa using x3) (by simpa using x22) (by simpa using x23) (by simpa using x24)
end Go.Proofs.Ytonnmbkfjiddnaa
