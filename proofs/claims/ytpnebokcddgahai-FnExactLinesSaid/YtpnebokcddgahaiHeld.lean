/- The walk of the look at the marks. -/
import Derived.Test.YtpnebokcddgahaiMark
import Derived.Deep.RegionWith
namespace Go.Proofs.Ytpnebokcddgahai
open Go.RowKit Go.Lib
set_option maxHeartbeats 1000000 in
theorem heldStrs (ao : Option Addr) (n cap : Nat) (w : World) (hl : n ≤ 900000) (h : RowS ao (Pl.marks n) w) :
    Calls Try.prog 11 #[.slice ao n cap, .int .i64 1] w fun e w' => e = .returned (.int .i64 (1 + n)) ∧ Below w.heap.size w w' := by
  go_enter Try.func11, Try.ntmps11
  go_wp2
  go_loopw [1, 5] (fun m i wr => ∃ k : Nat, k ≤ n ∧ i = .int .i64 k ∧ m = .int .i64 (1 + k) ∧ Below w.heap.size w wr) (fun _ i _ => n - (RowKit.intOf i).toNat)
  case atStart => exact ⟨0, Nat.zero_le _, rfl, rfl, Below.refl _ _⟩
  case round =>
    obtain ⟨k, hk, rfl, rfl, hb⟩ := hrel
    by_cases hlt : k < n
    · obtain ⟨g, hg, e1, hc1⟩ := h k (by rw [Pl.marks_len]; exact hlt)
      rw [Pl.marks_get] at hc1
      have hr1 := (hb.cell (p := ⟨g, k, none⟩) hg).trans hc1
      have hc := fun (w2 : World) (hb2 : Below wr.heap.size wr w2) => (hb2.cell (p := ⟨g, k, none⟩) (Nat.lt_of_lt_of_le hg hb.size)).trans hr1
      unfold txt at hr1 hc
      have Hc := mkHid hc
      have hmk := mkHid (fun W => markText (k + 1) W (by omega) (by omega))
      rw [show (((k + 1 : Nat)) : Int) = 1 + (k : Int) by omega] at hmk
      generalize Pl.mark (k + 1) = x at *
      clear h hc1 hc
      subst e1
      go_wp2
      go_region_with (go_at_call 22; (refine (hmk.out _).mono ?_; rintro e w2 ⟨rfl, hb2⟩; have hr2 := Hc.out w2 (((Below.refl wr.heap.size wr).drew).trans hb2)))
      all_goals
        have hbw := mkHid (hb.drew.trans (hb2.mono hb.size))
        go_wp2
        go_roundw
        case rel => exact ⟨k + 1, by omega, by go_num, by go_num, hbw.out⟩
        case measure => simp [RowKit.intOf]; omega
    · have hk' : k = n := by omega
      subst hk'
      go_wp2
      go_ret
      exact ⟨rfl, hb⟩
end Go.Proofs.Ytpnebokcddgahai
