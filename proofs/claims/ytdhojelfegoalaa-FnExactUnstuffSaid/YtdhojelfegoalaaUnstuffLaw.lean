
/- The walk of the law on Unstuff. -/
import Derived.Test.YtdhojelfegoalaaUnstuffImpl
namespace Go.Proofs.Ytdhojelfegoalaa
open Go.RowKit Go.Lib
set_option maxHeartbeats 400000 in
theorem eqCut (b : Bool) (x y : ByteArray) (w : World) :
    Calls Try.prog 9 #[.agg #[.bool b, .string x, .string y], .agg #[.bool b, .string x, .string y]] w fun e w' => e = .returned (.bool true) ∧ Below w.heap.size w w' := by
  have hb0 : (b != b) = false := by cases b <;> rfl
  go_enter Try.func9, Try.ntmps9
  go_wp2
  go_ret
  exact ⟨rfl, ((Below.refl _ _).alloc (Nat.le_refl _) _).alloc (by simp) _⟩
set_option maxHeartbeats 400000 in
theorem specUnstuffAny (s : ByteArray) (w : World) (hs : s.size ≤ 1048576) :
    Calls Try.prog 7 #[.string s] w fun e w' => e = .returned (cutV (unOf s)) ∧ Below w.heap.size w w' := by
  unfold unOf
  by_cases h : s.size ≤ 100000
  · rw [if_pos h]; exact specUnstuff s w h
  · rw [if_neg h]
    go_enter Try.func7, Try.ntmps7
    go_wp2
    refine bodyPost_ret (v := cutV none) (by simp [results, Try.results7, go_sem, cutV]) rfl ⟨rfl, ?_⟩
    exact (Below.refl _ _).alloc (Nat.le_refl _) _
theorem cutV_form (o : Option (List UInt8 × List UInt8)) : ∃ b x y, cutV o = .agg #[.bool b, .string x, .string y] := by
  cases o with
  | none => exact ⟨_, _, _, rfl⟩
  | some p => exact ⟨_, _, _, rfl⟩
set_option maxHeartbeats 1000000 in
theorem unstuffWalk (s : ByteArray) (m : Int) (w : World) (hs : s.size ≤ maxLen) (hm : w.cell? ⟨0, 0, none⟩ = some (.int .i64 m)) :
    Calls Try.prog 4 #[.string s] w fun e w' => e = .returned (.bool true) ∧ Below w.heap.size w w' := by
  unfold maxLen at hs
  by_cases hbig : 1048576 < s.size
  · go_enter Try.func4, Try.ntmps4
    go_wp2
    go_ret
    exact ⟨rfl, Below.refl _ _⟩
  · have hz := zero_ltL hm
    have hsp := mkHidL (fun W => specUnstuffAny s W (by omega))
    have him := mkHidL (fun m W => implUnstuff s m W (by omega))
    obtain ⟨b, x, y, hv⟩ := cutV_form (unOf s)
    rw [hv] at hsp him
    have Hm : Hid (∀ W, Below w.heap.size w W → W.cell? ⟨0, 0, none⟩ = some (.int .i64 m)) := fun W hb => (hb.cell (p := ⟨0, 0, none⟩) hz).trans hm
    clear hm hv
    go_enter Try.func4, Try.ntmps4
    go_wp2_with fail
    refine (hsp.out _).mono ?_
    rintro e w1 ⟨rfl, hb1⟩
    have hs1 := hb1.size
    go_wp2_with fail
    have hbA := hb1.alloc hs1 (.cells #[.bool b, .string x, .string y] 25)
    refine (him.out m _ (Hm.out _ hbA)).mono ?_
    rintro e w2 ⟨rfl, hb2⟩
    have hs2 : w1.heap.size < w2.heap.size := by have := hb2.size; simp at this; omega
    have c0 : w2.cell? ⟨w1.heap.size, 0, none⟩ = some (.bool b) := (hb2.cell (p := ⟨w1.heap.size, 0, none⟩) (by simp)).trans (by simp)
    have c1 : w2.cell? ⟨w1.heap.size, 1, none⟩ = some (.string x) := (hb2.cell (p := ⟨w1.heap.size, 1, none⟩) (by simp)).trans (by simp)
    have c2 : w2.cell? ⟨w1.heap.size, 2, none⟩ = some (.string y) := (hb2.cell (p := ⟨w1.heap.size, 2, none⟩) (by simp)).trans (by simp)
    have hbW : Below w.heap.size w w2 := hbA.trans (hb2.mono (by simp; omega))
    have HbW := mkHidL hbW
    clear hbA hb2 hbW
    go_wp2_with fail
    refine (eqCut b x y _).mono ?_
    rintro e w3 ⟨rfl, hb3⟩
    have hbF := mkHidL ((HbW.out.alloc (by omega) _).trans (hb3.mono (by simp; omega)))
    clear hb3
    go_wp2
    go_ret
    exact ⟨rfl, hbF.out⟩
end Go.Proofs.Ytdhojelfegoalaa
