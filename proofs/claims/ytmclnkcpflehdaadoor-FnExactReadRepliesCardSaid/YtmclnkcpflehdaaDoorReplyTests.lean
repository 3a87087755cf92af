
/- A line of a reply: its tests, both sides'. -/
import Derived.Test.YtmclnkcpflehdaaDoorReplyPlain
import Derived.Test.YtmclnkcpflehdaaDoorNumOf
import Derived.Test.YtmclnkcpflehdaaDoorSpecNum3
namespace Go.Proofs.YtmclnkcpflehdaaDoor
open Go.RowKit Go.Lib Go.Maps
namespace Rl
set_option maxRecDepth 20000 in
theorem take3 (x : List UInt8) (h : 4 ≤ x.length) : x.take 3 = [at_ x 0, at_ x 1, at_ x 2] := by
  match x, h with
  | a :: b :: c :: d :: r, _ => rfl
set_option maxRecDepth 20000 in
theorem num3 (x : List UInt8) (h : 4 ≤ x.length) : Cu.numI (x.take 3) = if dg (at_ x 0) && (dg (at_ x 1) && dg (at_ x 2)) then code x else -1 := by
  rw [take3 x h]
  unfold Cu.numI code
  have e : ([at_ x 0, at_ x 1, at_ x 2].all Cu.digit) = (dg (at_ x 0) && (dg (at_ x 1) && dg (at_ x 2))) := by
    simp only [List.all_cons, List.all_nil, Bool.and_true]
    rfl
  rw [e]
  cases (dg (at_ x 0) && (dg (at_ x 1) && dg (at_ x 2)))
  · rfl
  · rw [if_pos rfl, if_pos rfl]
    congr 1
    show ((0 * 10 + ((at_ x 0).toNat - 48)) * 10 + ((at_ x 1).toNat - 48)) * 10 + ((at_ x 2).toNat - 48) = _
    omega
set_option maxRecDepth 20000 in
theorem ok_num (x : List UInt8) (h : 4 ≤ x.length) (h3 : (at_ x 3 == 32 || at_ x 3 == 45) = true) : ok x = (decide (200 ≤ Cu.numI (x.take 3)) && decide (Cu.numI (x.take 3) ≤ 599)) ∧ (ok x = true → Cu.numI (x.take 3) = code x) := by
  rw [num3 x h]
  unfold ok
  rw [decide_eq_true h, h3]
  cases hd : (dg (at_ x 0) && (dg (at_ x 1) && dg (at_ x 2)))
  · exact ⟨rfl, fun e => by simp at e⟩
  · refine ⟨?_, fun _ => rfl⟩
    rw [if_pos rfl, Bool.true_and, Bool.true_and, Bool.and_true]
    unfold dg at hd
    simp only [Bool.and_eq_true, decide_eq_true_eq] at hd
    unfold code
    rw [Bool.eq_iff_iff]
    simp only [Bool.and_eq_true, decide_eq_true_eq]
    omega
set_option maxRecDepth 20000 in
theorem code_in (x : List UInt8) (h : ok x = true) : 200 ≤ code x ∧ code x ≤ 599 := by
  have h0 : 4 ≤ x.length ∧ (at_ x 3 == 32 || at_ x 3 == 45) = true := by
    unfold ok at h
    simp only [Bool.and_eq_true, decide_eq_true_eq] at h
    exact ⟨h.1, h.2.2.2⟩
  obtain ⟨h1, h2⟩ := ok_num x h0.1 h0.2
  rw [h1] at h
  have h3 := h2 (by rw [h1]; exact h)
  simp only [Bool.and_eq_true, decide_eq_true_eq] at h
  rw [h3] at h
  exact h
set_option maxRecDepth 20000 in
theorem at_get (t : ByteArray) (i : Nat) (h : i < t.size) : at_ t.data.toList i = t[i] := by
  unfold at_
  rw [List.getElem?_eq_getElem (by simpa using h)]
  rfl
end Rl
set_option maxRecDepth 20000 in
set_option maxHeartbeats 1000000 in
theorem implReplyLine (t : ByteArray) (w : World) (hs : t.size ≤ 1048576) :
    Calls Tryd.prog 14 #[.string t] w fun e w' => e = .returned (.bool (Rl.ok t.data.toList)) ∧ w = w' := by
  have hll : t.data.toList.length = t.size := by simp
  unfold Rl.ok
  rw [hll]
  by_cases h4 : 4 ≤ t.size
  · have x4 : decide ((3 : Int) < (t.size : Int)) = true := decide_eq_true (by omega)
    have g0 : 0 < t.size := Nat.lt_of_lt_of_le (by decide) h4
    have g1 : 1 < t.size := Nat.lt_of_lt_of_le (by decide) h4
    have g2 : 2 < t.size := Nat.lt_of_lt_of_le (by decide) h4
    have g3 : 3 < t.size := Nat.lt_of_lt_of_le (by decide) h4
    rw [decide_eq_true h4, Bool.true_and, Rl.at_get t 0 g0, Rl.at_get t 1 g1, Rl.at_get t 2 g2, Rl.at_get t 3 g3]
    have hz : (t.extract 0 3).size = 3 := by rw [ByteArray.size_extract]; omega
    have hA := mkHid (implAllOf kindDigitC (t.extract 0 3) w (by omega))
    have hd : (t.extract 0 3).data.toList.all Cu.digit = (Rl.dg (t[0]'g0) && (Rl.dg (t[1]'g1) && Rl.dg (t[2]'g2))) := by
      rw [Pl.ext_data, List.drop_zero, Rl.take3 _ (by rw [hll]; exact h4), Rl.at_get t 0 g0, Rl.at_get t 1 g1, Rl.at_get t 2 g2]
      simp only [List.all_cons, List.all_nil, Bool.and_true]
      rfl
    rw [hd] at hA
    clear hd hz hll
    have h8 : t[0].toNat < 256 := UInt8.toNat_lt _
    have h8b : t[3].toNat < 256 := UInt8.toNat_lt _
    generalize (Rl.dg (t[0]'g0) && (Rl.dg (t[1]'g1) && Rl.dg (t[2]'g2))) = bd at *
    cases bd
    · rw [Bool.false_and]
      go_enter Tryd.func14, Tryd.ntmps14
      go_wp2_with (go_at_call 21; go_must (refine hA.out.mono ?_; rintro e w2 ⟨rfl, rfl⟩))
      go_ret
      exact ⟨rfl, rfl⟩
    · rw [Bool.true_and]
      by_cases h5 : 50 ≤ t[0].toNat
      · have x5 : decide ((50 : Int) ≤ (t[0].toNat : Int)) = true := decide_eq_true (by omega)
        by_cases h6 : t[0].toNat ≤ 53
        · have x6 : decide ((t[0].toNat : Int) ≤ 53) = true := decide_eq_true (by omega)
          rw [decide_eq_true h5, decide_eq_true h6, Bool.true_and, Bool.true_and]
          by_cases h7 : t[3].toNat = 32
          · have x7 : ((t[3].toNat : Int) == 32) = true := by simp; omega
            have y7 : (t[3] == 32) = true := by rw [beq_iff_eq]; exact UInt8.toNat_inj.1 h7
            rw [y7]
            clear h7
            go_enter Tryd.func14, Tryd.ntmps14
            go_wp2_with (go_at_call 21; go_must (refine hA.out.mono ?_; rintro e w2 ⟨rfl, rfl⟩))
            go_ret
            exact ⟨rfl, rfl⟩
          · have x7 : ((t[3].toNat : Int) == 32) = false := by simp; omega
            have y7 : (t[3] == 32) = false := by rw [beq_eq_false_iff_ne]; exact fun e => h7 (by rw [e]; rfl)
            rw [y7, Bool.false_or]
            have x9 : ((t[3].toNat : Int) == 45) = (t[3] == 45) := by
              rw [Bool.eq_iff_iff, beq_iff_eq, beq_iff_eq]
              exact ⟨fun e => UInt8.toNat_inj.1 (by show t[3].toNat = 45; omega), fun e => by rw [e]; rfl⟩
            generalize (t[3] == 45) = b9 at *
            go_enter Tryd.func14, Tryd.ntmps14
            go_wp2_with (go_at_call 21; go_must (refine hA.out.mono ?_; rintro e w2 ⟨rfl, rfl⟩))
            go_ret
            exact ⟨rfl, rfl⟩
        · have x6 : decide ((t[0].toNat : Int) ≤ 53) = false := decide_eq_false (by omega)
          rw [decide_eq_false h6, Bool.and_false, Bool.false_and]
          go_enter Tryd.func14, Tryd.ntmps14
          go_wp2_with (go_at_call 21; go_must (refine hA.out.mono ?_; rintro e w2 ⟨rfl, rfl⟩))
          go_ret
          exact ⟨rfl, rfl⟩
      · have x5 : decide ((50 : Int) ≤ (t[0].toNat : Int)) = false := decide_eq_false (by omega)
        rw [decide_eq_false h5, Bool.false_and, Bool.false_and]
        go_enter Tryd.func14, Tryd.ntmps14
        go_wp2_with (go_at_call 21; go_must (refine hA.out.mono ?_; rintro e w2 ⟨rfl, rfl⟩))
        go_ret
        exact ⟨rfl, rfl⟩
  · have x4 : decide ((3 : Int) < (t.size : Int)) = false := decide_eq_false (by omega)
    rw [decide_eq_false h4, Bool.false_and]
    go_enter Tryd.func14, Tryd.ntmps14
    go_wp2
    go_ret
    exact ⟨rfl, rfl⟩
end Go.Proofs.YtmclnkcpflehdaaDoor
