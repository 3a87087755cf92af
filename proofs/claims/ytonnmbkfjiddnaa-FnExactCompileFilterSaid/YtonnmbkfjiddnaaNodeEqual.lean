
/- slices.Equal at numbers. -/
import Derived.Test.YtonnmbkfjiddnaaNodeImpl
namespace Go.Proofs.Ytonnmbkfjiddnaa
open Go.RowKit Go.Lib Go.Maps
theorem eq_drop (F G : List Int) (k : Nat) (h1 : k < F.length) (h2 : k < G.length) : decide (F.drop k = G.drop k) = (decide (F[k] = G[k]) && decide (F.drop (k + 1) = G.drop (k + 1))) := by
  have h : (F.drop k = G.drop k) = (F[k] = G[k] ∧ F.drop (k + 1) = G.drop (k + 1)) := by rw [List.drop_eq_getElem_cons h1, List.drop_eq_getElem_cons h2, List.cons.injEq]
  simp only [h, Bool.decide_and]
set_option maxHeartbeats 1000000 in
theorem implEqual (o1 o2 : Option Addr) (F G : List Int) (c1 c2 : Nat) (w : World) (hF : Ints w.heap.size w o1 F) (hG : Ints w.heap.size w o2 G) (hl : F.length ≤ 1048576) (_ : G.length ≤ 1048576) :
    Calls Try.prog 64 #[.slice o1 F.length c1, .slice o2 G.length c2] w fun e w' => e = .returned (.bool (decide (F = G))) ∧ Below w.heap.size w w' := by
  have HF := mkH hF
  have HG := mkH hG
  clear hF hG
  by_cases hlen : F.length = G.length
  · obtain ⟨R, hR⟩ : ∃ R, decide (F = G) = R := ⟨_, rfl⟩
    rw [hR]
    have HR : Hid (decide (F.drop 0 = G.drop 0) = R) := hR
    clear hR
    have b1 : ((F.length : Int) == (G.length : Int)) = true := by simp; omega
    have b2 : ((F.length : Int) != (G.length : Int)) = false := by simp; omega
    have Hlen := mkH hlen
    clear hlen
    go_enter Try.func64, Try.ntmps64
    go_wp2
    go_loopw [5, 13] (fun _ iv wr => ∃ k : Nat, k ≤ F.length ∧ iv = .int .i64 k ∧ Hid (decide (F.drop k = G.drop k) = R) ∧ Below w.heap.size w wr) (fun _ iv _ => F.length - (Lib.intOf iv).toNat)
    case atStart => exact ⟨0, Nat.zero_le _, rfl, HR, Below.refl _ _⟩
    case round =>
      clear HR
      obtain ⟨k, hk, rfl, hp, hb⟩ := hrel
      by_cases hlt : k < F.length
      · have hlt2 : k < G.length := by rw [← Hlen.out]; exact hlt
        obtain ⟨a, rfl, ha, ck⟩ := (HF.out.below hb) k hlt
        obtain ⟨b, rfl, hbb, dk⟩ := (HG.out.below hb) k hlt2
        have hst := mkH (hp.out.symm.trans (eq_drop F G k hlt hlt2))
        clear hp
        generalize F[k] = x at *
        generalize G[k] = y at *
        by_cases hxy : x = y
        · have e1 : (x == y) = true := by simpa using hxy
          have e2 : (x != y) = false := by simp [hxy]
          have hf : Hid (decide (F.drop (k + 1) = G.drop (k + 1)) = R) := by rw [hst.out, decide_eq_true hxy]; exact (Bool.true_and _).symm
          clear hst hxy
          go_wp2
          go_quiet (fail)
          have hbq := mkH (below_drewN hb nq)
          go_wp2
          go_roundw
          case rel => exact ⟨k + 1, by omega, by go_num, hf, hbq.out⟩
          case measure => simp [Lib.intOf]; omega
        · have e1 : (x == y) = false := by simpa using hxy
          have e2 : (x != y) = true := by simpa using hxy
          have hf : Hid (R = false) := by rw [hst.out, decide_eq_false hxy]; exact Bool.false_and _
          clear hst hxy
          go_wp2
          go_quiet (fail)
          have hbq := mkH (below_drewN hb nq)
          go_wp2
          go_ret
          rw [hf.out]
          exact ⟨rfl, hbq.out⟩
      · have hf : Hid (R = true) := by
          have := hp.out
          rw [List.drop_eq_nil_of_le (by omega), List.drop_eq_nil_of_le (by rw [← Hlen.out]; omega)] at this
          exact this.symm
        go_wp2
        go_ret
        rw [hf.out]
        exact ⟨rfl, hb⟩
  · have b1 : ((F.length : Int) == (G.length : Int)) = false := by simp; omega
    have b2 : ((F.length : Int) != (G.length : Int)) = true := by simp; omega
    have hd : decide (F = G) = false := decide_eq_false (fun h => hlen (by rw [h]))
    rw [hd]
    go_enter Try.func64, Try.ntmps64
    go_wp2
    go_ret
    exact ⟨rfl, Below.refl _ _⟩
end Go.Proofs.Ytonnmbkfjiddnaa
