/- The walks of a digit and its value in the model; the room for an answer. -/
import Derived.Test.YtpnebokcddgahajRDoorOf
import Derived.Test.YtpnebokcddgahajRDoorUnPlain
namespace Go.Proofs.YtpnebokcddgahajRDoor
open Go.RowKit Go.Lib
set_option maxHeartbeats 400000 in
theorem specDigit (n : Nat) (w : World) (hn : n < 64) :
    Calls Tryd.prog 30 #[.int .i64 n] w fun e w' => e = .returned (.int .u8 ((Pl.d64 n).toNat : Int)) ∧ w = w' := by
  by_cases h1 : n < 26
  · rw [Pl.d64_a n h1]
    go_enter Tryd.func30, Tryd.ntmps30
    go_wp2
    go_ret
    exact ⟨rfl, rfl⟩
  by_cases h2 : n < 52
  · rw [Pl.d64_b n (by omega) h2]
    go_enter Tryd.func30, Tryd.ntmps30
    go_wp2
    go_ret
    exact ⟨rfl, rfl⟩
  by_cases h3 : n < 62
  · rw [Pl.d64_c n (by omega) h3]
    go_enter Tryd.func30, Tryd.ntmps30
    go_wp2
    go_ret
    exact ⟨rfl, rfl⟩
  by_cases h4 : n = 62
  · subst h4
    go_enter Tryd.func30, Tryd.ntmps30
    go_wp2
    go_ret
    exact ⟨rfl, rfl⟩
  · have h5 : n = 63 := by omega
    subst h5
    go_enter Tryd.func30, Tryd.ntmps30
    go_wp2
    go_ret
    exact ⟨rfl, rfl⟩
def valI (c : UInt8) : Int := if Pl.val c < 64 then (Pl.val c : Int) else -1
set_option maxHeartbeats 400000 in
theorem specValue (c : UInt8) (w : World) :
    Calls Tryd.prog 17 #[.int .u8 (c.toNat : Int)] w fun e w' => e = .returned (.int .i64 (valI c)) ∧ w = w' := by
  have hv := fun k h => Pl.d64_val c k h
  have Hv := mkH hv
  have hvl := Pl.val_le c
  have Hi : Hid (valI c = if Pl.val c < 64 then (Pl.val c : Int) else -1) := rfl
  generalize valI c = z at *
  generalize Pl.val c = n at *
  clear hv
  go_enter Tryd.func17, Tryd.ntmps17
  go_wp2
  go_loop [3] (fun i => ∃ k : Nat, k ≤ 64 ∧ i = .int .i64 k ∧ k ≤ n) (fun i => 64 - (RowKit.intOf i).toNat)
  case atStart => exact ⟨0, by omega, rfl, by omega⟩
  case round =>
    obtain ⟨k, hk, rfl, hno⟩ := hrel
    by_cases hlt : k < 64
    · have hkv := Hv.out k hlt
      go_wp2_with fail
      refine (specDigit k _ hlt).mono ?_
      rintro e w2 ⟨rfl, rfl⟩
      by_cases e : n = k
      · have hq : (((Pl.d64 k).toNat : Int) == (c.toNat : Int)) = true := by rw [hkv.2 e]; simp
        have Hz : Hid (z = (k : Int)) := by rw [Hi.out, if_pos (by omega), e]; exact rfl
        clear hkv e
        go_wp2
        go_ret
        rw [Hz.out]
        exact ⟨rfl, rfl⟩
      · have hq : (((Pl.d64 k).toNat : Int) == (c.toNat : Int)) = false := by
          rw [beq_eq_false_iff_ne]
          intro h
          exact e (hkv.1 (by omega))
        clear hkv
        go_wp2
        go_round
        case rel => exact ⟨k + 1, by omega, by go_num, by omega⟩
        case measure => simp [RowKit.intOf]; omega
    · have Hz : Hid (z = -1) := by rw [Hi.out, if_neg (by omega)]; exact rfl
      go_wp2
      go_ret
      rw [Hz.out]
      exact ⟨rfl, rfl⟩
def bytesV : Option (List UInt8) → Value
  | none => .agg #[.bool false, .string ⟨#[]⟩]
  | some l => .agg #[.bool true, .string ⟨l.toArray⟩]
/-- The world with the room for the answer. -/
structure Room (w W : World) : Prop where
  size : W.heap.size = w.heap.size + 1
  below : Below w.heap.size w W
  c0 : W.cell? ⟨w.heap.size, 0, none⟩ = some (.bool false)
  c1 : W.cell? ⟨w.heap.size, 1, none⟩ = some (.string ⟨#[]⟩)
  f0 : W.frozen? ⟨w.heap.size, 0, none⟩ = false
  f1 : W.frozen? ⟨w.heap.size, 1, none⟩ = false
theorem room (w : World) : Room w (w.alloc (.cells #[.bool false, .string ⟨#[]⟩] 23)) :=
  ⟨by simp, (Below.refl _ _).alloc (Nat.le_refl _) _, by simp, by simp, by simp, by simp⟩
theorem Room.on {w W W' : World} (h : Room w W) (hb : Below W.heap.size W W') :
    W'.cell? ⟨w.heap.size, 0, none⟩ = some (.bool false) ∧ W'.cell? ⟨w.heap.size, 1, none⟩ = some (.string ⟨#[]⟩) ∧
    W'.frozen? ⟨w.heap.size, 0, none⟩ = false ∧ W'.frozen? ⟨w.heap.size, 1, none⟩ = false := by
  have hs := h.size
  exact ⟨(hb.cell (p := ⟨w.heap.size, 0, none⟩) (by simp; omega)).trans h.c0, (hb.cell (p := ⟨w.heap.size, 1, none⟩) (by simp; omega)).trans h.c1,
    (hb.frozen (p := ⟨w.heap.size, 0, none⟩) (by simp; omega)).trans h.f0, (hb.frozen (p := ⟨w.heap.size, 1, none⟩) (by simp; omega)).trans h.f1⟩
end Go.Proofs.YtpnebokcddgahajRDoor
