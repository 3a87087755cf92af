/- The walk of the law on UnBase64. -/
import Derived.Test.YtpnebokcddgahajRDoorUnImpl
namespace Go.Proofs.YtpnebokcddgahajRDoor
open Go.RowKit Go.Lib
set_option maxHeartbeats 400000 in
theorem eqBytesV (b : Bool) (x : ByteArray) (w : World) :
    Calls Tryd.prog 9 #[.agg #[.bool b, .string x], .agg #[.bool b, .string x]] w fun e w' => e = .returned (.bool true) ∧ Below w.heap.size w w' := by
  have hb0 : (b != b) = false := by cases b <;> rfl
  go_enter Tryd.func9, Tryd.ntmps9
  go_wp2
  go_ret
  exact ⟨rfl, ((Below.refl _ _).alloc (Nat.le_refl _) _).alloc (by simp) _⟩
def unOf (s : ByteArray) : Option (List UInt8) := if s.size ≤ 100000 then Pl.un64 s.data.toList else none
set_option maxRecDepth 100000 in
set_option maxHeartbeats 400000 in
theorem specUnAny (s : ByteArray) (w : World) (hs : s.size ≤ 1048576) :
    Calls Tryd.prog 7 #[.string s] w fun e w' => e = .returned (bytesV (unOf s)) ∧ Below w.heap.size w w' := by
  unfold unOf
  by_cases h : s.size ≤ 100000
  · rw [if_pos h]; exact specUn s w h
  · rw [if_neg h]
    go_enter Tryd.func7, Tryd.ntmps7
    go_wp2
    refine bodyPost_ret (v := bytesV none) (by simp [results, Tryd.results7, go_sem, bytesV]) rfl ⟨rfl, ?_⟩
    exact (Below.refl _ _).alloc (Nat.le_refl _) _
set_option maxRecDepth 100000 in
set_option maxHeartbeats 400000 in
theorem implUnAny (s : ByteArray) (w : World) (hs : s.size ≤ 1048576) :
    Calls Tryd.prog 8 #[.string s] w fun e w' => e = .returned (bytesV (unOf s)) ∧ Below w.heap.size w w' := by
  unfold unOf
  by_cases h : s.size ≤ 100000
  · rw [if_pos h]; exact implUn s w h
  · rw [if_neg h]
    go_enter Tryd.func8, Tryd.ntmps8
    go_wp2
    refine bodyPost_ret (v := bytesV none) (by simp [results, Tryd.results8, go_sem, bytesV]) rfl ⟨rfl, ?_⟩
    exact (Below.refl _ _).alloc (Nat.le_refl _) _
theorem bytesV_form (o : Option (List UInt8)) : ∃ b x, bytesV o = .agg #[.bool b, .string x] := by
  cases o with
  | none => exact ⟨_, _, rfl⟩
  | some p => exact ⟨_, _, rfl⟩
set_option maxHeartbeats 1000000 in
theorem unWalk (s : ByteArray) (w : World) (hs : s.size ≤ maxLen) :
    Calls Tryd.prog 3 #[.string s] w fun e w' => e = .returned (.bool true) ∧ Below w.heap.size w w' := by
  unfold maxLen at hs
  by_cases hbig : 1048576 < s.size
  · go_enter Tryd.func3, Tryd.ntmps3
    go_wp2
    go_ret
    exact ⟨rfl, Below.refl _ _⟩
  · have hsp := mkH (fun W => specUnAny s W (by omega))
    have him := mkH (fun W => implUnAny s W (by omega))
    obtain ⟨b, x, hv⟩ := bytesV_form (unOf s)
    rw [hv] at hsp him
    clear hv
    go_enter Tryd.func3, Tryd.ntmps3
    go_wp2_with fail
    refine (hsp.out _).mono ?_
    rintro e w1 ⟨rfl, hb1⟩
    have hs1 := hb1.size
    go_wp2_with fail
    have hbA := hb1.alloc hs1 (.cells #[.bool b, .string x] 23)
    refine (him.out _).mono ?_
    rintro e w2 ⟨rfl, hb2⟩
    have hs2 : w1.heap.size < w2.heap.size := by have := hb2.size; simp at this; omega
    have c0 : w2.cell? ⟨w1.heap.size, 0, none⟩ = some (.bool b) := (hb2.cell (p := ⟨w1.heap.size, 0, none⟩) (by simp)).trans (by simp)
    have c1 : w2.cell? ⟨w1.heap.size, 1, none⟩ = some (.string x) := (hb2.cell (p := ⟨w1.heap.size, 1, none⟩) (by simp)).trans (by simp)
    have hbW : Below w.heap.size w w2 := hbA.trans (hb2.mono (by simp; omega))
    have HbW := mkH hbW
    clear hbA hb2 hbW
    go_wp2_with fail
    refine (eqBytesV b x _).mono ?_
    rintro e w3 ⟨rfl, hb3⟩
    have hbF := mkH ((HbW.out.alloc (by omega) _).trans (hb3.mono (by simp; omega)))
    clear hb3
    go_wp2
    go_ret
    exact ⟨rfl, hbF.out⟩
end Go.Proofs.YtpnebokcddgahajRDoor
