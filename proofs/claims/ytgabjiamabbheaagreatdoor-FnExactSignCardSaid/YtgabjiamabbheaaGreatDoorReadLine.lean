
/- The model's lines of a head. -/
import Derived.Test.YtgabjiamabbheaaGreatDoorHeadTests
import Derived.Test.YtgabjiamabbheaaGreatDoorReadSame
namespace Go.Proofs.YtgabjiamabbheaaGreatDoor
open Go.RowKit Go.Lib
set_option maxRecDepth 20000 in
theorem b_at (s : ByteArray) (k : Nat) (h : k < s.size) : Pl.b s.data.toList k = s[k] := Pl.b_lt _ k (by simpa using h)
set_option maxRecDepth 20000 in
set_option maxHeartbeats 1000000 in
theorem specLine (s : ByteArray) (k : Nat) (w : World) (_hs : s.size ≤ 1100000) (hk : k ≤ s.size) :
    Calls Tryz.prog 31 #[.string s, .int .i64 k] w fun e w' => e = .returned (.tuple #[.int .i64 (Pl.le s.data.toList k : Nat), .int .i64 (Pl.nx s.data.toList (Pl.le s.data.toList k) : Nat)]) ∧ w = w' := by
  obtain ⟨E, hE⟩ : ∃ E, Pl.le s.data.toList k = E := ⟨_, rfl⟩
  rw [hE]
  have HE : Hid (Pl.le s.data.toList k = E) := hE
  clear hE
  go_enter Tryz.func31, Tryz.ntmps31
  go_wp2
  go_loopw [6] (fun i wr => ∃ j : Nat, j ≤ s.size ∧ i = .int .i64 j ∧ Hid (Pl.le s.data.toList j = E) ∧ wr = w) (fun i _ => s.size - (Lib.intOf i).toNat)
  case atStart => exact ⟨k, hk, rfl, HE, rfl⟩
  case round =>
    clear HE hk
    obtain ⟨k, hk, rfl, hp, rfl⟩ := hrel
    by_cases hlt : k + 1 < s.size
    · have h8 : s[k].toNat < 256 := UInt8.toNat_lt _
      have h9 : s[k + 1].toNat < 256 := UInt8.toNat_lt _
      have hll : k < s.data.toList.length := by simp; omega
      have miss : Pl.crlf s.data.toList k = false → Hid (Pl.le s.data.toList (k + 1) = E) := fun h => show _ = _ from (Pl.first_miss _ _ _ hll h).trans hp.out
      by_cases h13 : ((s[k].toNat : Int) == 13) = true
      · by_cases h10 : ((s[k + 1].toNat : Int) == 10) = true
        · have hcr : Pl.crlf s.data.toList k = true := (Pl.crlf_iff _ _).2 ⟨by simp; omega, Pl.byte_eq _ 13 _ rfl h13, Pl.byte_eq _ 10 _ rfl h10⟩
          have hE : Hid (E = k) := show _ = _ from hp.out.symm.trans (Pl.first_hit _ _ _ hcr)
          have hN : Hid (Pl.nx s.data.toList k = k + 2) := show _ = _ from by rw [Pl.nx, if_pos hll]
          clear hp miss hcr
          go_wp2
          refine bodyPost_ret (v := .tuple #[.int .i64 k, .int .i64 (k + 2)]) (by simp [results, Tryz.results31, go_sem]) rfl ⟨?_, rfl⟩
          rw [hE.out, hN.out]
          simp
        · rw [Bool.not_eq_true] at h10
          have hg := miss (by rw [Bool.eq_false_iff]; intro e; obtain ⟨_, -, e1⟩ := (Pl.crlf_iff _ _).1 e; exact Pl.byte_ne _ 10 _ rfl h10 e1)
          clear hp miss
          go_wp2
          go_roundw
          case rel => exact ⟨k + 1, by omega, by go_num, hg, trivial⟩
          case measure => simp [Lib.intOf]; omega
      · rw [Bool.not_eq_true] at h13
        have hg := miss (by rw [Bool.eq_false_iff]; intro e; obtain ⟨_, e1, -⟩ := (Pl.crlf_iff _ _).1 e; exact Pl.byte_ne _ 13 _ rfl h13 e1)
        clear hp miss
        go_wp2
        go_roundw
        case rel => exact ⟨k + 1, by omega, by go_num, hg, trivial⟩
        case measure => simp [Lib.intOf]; omega
    · have hE : Hid (E = s.size) := show _ = _ from by
        rw [← hp.out]
        exact (Pl.first_eq _ _ _ _ hk (by simp) (fun j h1 h2 => Pl.crlf_short _ _ (by simp; omega)) (fun h => by simp at h))
      have hN : Hid (Pl.nx s.data.toList s.size = s.size) := show _ = _ from by rw [Pl.nx, if_neg (by simp)]; simp
      clear hp
      go_wp2
      refine bodyPost_ret (v := .tuple #[.int .i64 s.size, .int .i64 s.size]) (by simp [results, Tryz.results31, go_sem]) rfl ⟨?_, rfl⟩
      rw [hE.out, hN.out]
end Go.Proofs.YtgabjiamabbheaaGreatDoor
