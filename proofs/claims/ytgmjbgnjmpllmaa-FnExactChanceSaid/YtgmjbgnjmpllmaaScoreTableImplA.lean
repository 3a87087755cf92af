
/- The program's words, counts and bounds of counts. -/
import Derived.Test.YtgmjbgnjmpllmaaScoreWord
import Derived.Test.YtgmjbgnjmpllmaaScoreBad
namespace Go.Proofs.Ytgmjbgnjmpllmaa
open Go.RowKit Go.Lib Go.Maps
set_option maxHeartbeats 400000 in
theorem implLowC (c : UInt8) (w : World) : Calls Try.prog 32 #[.int .u8 (c.toNat : Int)] w fun e w' => e = .returned (.bool (Sc.low c)) ∧ w = w' := by
  have h8 : c.toNat < 256 := UInt8.toNat_lt _
  unfold Sc.low
  by_cases h1 : 97 ≤ c.toNat
  · by_cases h2 : c.toNat ≤ 122
    · rw [decide_eq_true h1, decide_eq_true h2]
      have h2' : decide ((c.toNat : Int) ≤ 122) = true := by simp; omega
      go_enter Try.func32, Try.ntmps32
      go_wp2
      go_ret
      exact ⟨rfl, rfl⟩
    · rw [decide_eq_true h1, decide_eq_false h2]
      have h2' : decide ((c.toNat : Int) ≤ 122) = false := by simp; omega
      go_enter Try.func32, Try.ntmps32
      go_wp2
      go_ret
      exact ⟨rfl, rfl⟩
  · rw [decide_eq_false h1]
    go_enter Try.func32, Try.ntmps32
    go_wp2
    go_ret
    exact ⟨rfl, rfl⟩
set_option maxHeartbeats 400000 in
theorem implDigC (c : UInt8) (w : World) : Calls Try.prog 33 #[.int .u8 (c.toNat : Int)] w fun e w' => e = .returned (.bool (Sc.dig c)) ∧ w = w' := by
  have h8 : c.toNat < 256 := UInt8.toNat_lt _
  unfold Sc.dig
  by_cases h1 : 48 ≤ c.toNat
  · by_cases h2 : c.toNat ≤ 57
    · rw [decide_eq_true h1, decide_eq_true h2]
      have h2' : decide ((c.toNat : Int) ≤ 57) = true := by simp; omega
      go_enter Try.func33, Try.ntmps33
      go_wp2
      go_ret
      exact ⟨rfl, rfl⟩
    · rw [decide_eq_true h1, decide_eq_false h2]
      have h2' : decide ((c.toNat : Int) ≤ 57) = false := by simp; omega
      go_enter Try.func33, Try.ntmps33
      go_wp2
      go_ret
      exact ⟨rfl, rfl⟩
  · rw [decide_eq_false h1]
    go_enter Try.func33, Try.ntmps33
    go_wp2
    go_ret
    exact ⟨rfl, rfl⟩
set_option maxHeartbeats 400000 in
theorem implScoreByte (c : UInt8) (w : World) : Calls Try.prog 31 #[.int .u8 (c.toNat : Int)] w fun e w' => e = .returned (.bool (Sc.ch c)) ∧ w = w' := by
  have h8 : c.toNat < 256 := UInt8.toNat_lt _
  have hL := implLowC c w
  have hD := implDigC c w
  unfold Sc.ch
  cases h1 : Sc.low c
  · rw [h1] at hL
    go_enter Try.func31, Try.ntmps31
    go_wp2_with fail
    refine hL.mono ?_
    rintro e w2 ⟨rfl, rfl⟩
    go_wp2_with fail
    refine hD.mono ?_
    rintro e w2 ⟨rfl, rfl⟩
    go_wp2
    go_ret
    exact ⟨rfl, rfl⟩
  · rw [h1] at hL
    go_enter Try.func31, Try.ntmps31
    go_wp2_with fail
    refine hL.mono ?_
    rintro e w2 ⟨rfl, rfl⟩
    go_wp2
    go_ret
    exact ⟨rfl, rfl⟩
theorem kindScore : Kind 31 Sc.ch := ⟨Go.Proofs.enters_of Try.func31 (by kernel_rfl) rfl, implScoreByte⟩
set_option maxHeartbeats 400000 in
theorem implHasSize (n : Nat) (w : World) (_hn : n ≤ 1100000) : Calls Try.prog 29 #[.int .i64 (n : Int)] w fun e w' => e = .returned (.bool (decide (3 ≤ n) && decide (n ≤ 20))) ∧ w = w' := by
  by_cases h1 : 3 ≤ n
  · have h1' : decide ((3 : Int) ≤ (n : Int)) = true := by simp; omega
    by_cases h2 : n ≤ 20
    · have h2' : decide ((n : Int) ≤ 20) = true := by simp; omega
      rw [decide_eq_true h1, decide_eq_true h2]
      go_enter Try.func29, Try.ntmps29
      go_wp2
      go_ret
      exact ⟨rfl, rfl⟩
    · have h2' : decide ((n : Int) ≤ 20) = false := by simp; omega
      rw [decide_eq_true h1, decide_eq_false h2]
      go_enter Try.func29, Try.ntmps29
      go_wp2
      go_ret
      exact ⟨rfl, rfl⟩
  · have h1' : decide ((3 : Int) ≤ (n : Int)) = false := by simp; omega
    rw [decide_eq_false h1]
    go_enter Try.func29, Try.ntmps29
    go_wp2
    go_ret
    exact ⟨rfl, rfl⟩
set_option maxHeartbeats 400000 in
theorem implWord (s : ByteArray) (w : World) (hs : s.size ≤ 1048576) : Calls Try.prog 23 #[.string s] w fun e w' => e = .returned (.bool (Sc.word s)) ∧ w = w' := by
  have hH := implHasSize s.size w (by omega)
  have hA := implAllOf kindScore s w (by omega)
  unfold Sc.word
  rw [← Bool.and_assoc]
  generalize (decide (3 ≤ s.size) && decide (s.size ≤ 20)) = b at *
  generalize s.data.toList.all Sc.ch = A at *
  cases b
  · go_enter Try.func23, Try.ntmps23
    go_wp2_with fail
    refine hH.mono ?_
    rintro e w2 ⟨rfl, rfl⟩
    go_wp2
    go_ret
    exact ⟨rfl, rfl⟩
  · go_enter Try.func23, Try.ntmps23
    go_wp2_with fail
    refine hH.mono ?_
    rintro e w2 ⟨rfl, rfl⟩
    go_wp2_with fail
    refine hA.mono ?_
    rintro e w2 ⟨rfl, rfl⟩
    go_wp2
    go_ret
    exact ⟨rfl, rfl⟩
def ctV (g b : Int) : Value := .agg #[.int .i64 g, .int .i64 b]
set_option maxHeartbeats 400000 in
theorem implTabCounts (g b : Int) (v : Value) (w : World) : Calls Try.prog 21 #[tbV g b v] w fun e w' => e = .returned (ctV g b) ∧ Below w.heap.size w w' := by
  unfold tbV ctV
  go_enter Try.func21, Try.ntmps21
  go_wp2
  refine bodyPost_ret (v := .agg #[.int .i64 g, .int .i64 b]) (by simp [results, Try.results21, go_sem]) rfl ⟨rfl, ?_⟩
  exact ((Below.refl _ _).alloc (Nat.le_refl _) _).alloc (by simp) _
set_option maxHeartbeats 400000 in
theorem implWordCounts (c : Wc) (w : World) : Calls Try.prog 24 #[wcV c] w fun e w' => e = .returned (ctV c.good c.bad) ∧ Below w.heap.size w w' := by
  unfold wcV ctV
  go_enter Try.func24, Try.ntmps24
  go_wp2
  refine bodyPost_ret (v := .agg #[.int .i64 c.good, .int .i64 c.bad]) (by simp [results, Try.results24, go_sem]) rfl ⟨rfl, ?_⟩
  exact ((Below.refl _ _).alloc (Nat.le_refl _) _).alloc (by simp) _
namespace Sc
def within (a b g h : Int) : Bool := decide (0 ≤ a) && (decide (a ≤ g) && (decide (0 ≤ b) && decide (b ≤ h)))
end Sc
set_option maxHeartbeats 800000 in
theorem implWithin (a b g h : Int) (w : World) : Calls Try.prog 22 #[ctV a b, ctV g h] w fun e w' => e = .returned (.bool (Sc.within a b g h)) ∧ Below w.heap.size w w' := by
  unfold ctV Sc.within
  have hB : Hid (∀ v1 t1 v2 t2, Below w.heap.size w ((w.alloc (.cells v1 t1)).alloc (.cells v2 t2))) := fun v1 t1 v2 t2 => ((Below.refl _ _).alloc (Nat.le_refl _) _).alloc (by simp) _
  cases h1 : decide (0 ≤ a)
  · go_enter Try.func22, Try.ntmps22
    go_wp2
    go_ret
    exact ⟨rfl, hB.out _ _ _ _⟩
  · cases h2 : decide (a ≤ g)
    · go_enter Try.func22, Try.ntmps22
      go_wp2
      go_ret
      exact ⟨rfl, hB.out _ _ _ _⟩
    · cases h3 : decide (0 ≤ b)
      · go_enter Try.func22, Try.ntmps22
        go_wp2
        go_ret
        exact ⟨rfl, hB.out _ _ _ _⟩
      · cases h4 : decide (b ≤ h)
        · go_enter Try.func22, Try.ntmps22
          go_wp2
          go_ret
          exact ⟨rfl, hB.out _ _ _ _⟩
        · go_enter Try.func22, Try.ntmps22
          go_wp2
          go_ret
          exact ⟨rfl, hB.out _ _ _ _⟩
end Go.Proofs.Ytgmjbgnjmpllmaa
