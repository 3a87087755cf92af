
/- The specification's test of a query's node. (By tools/gen/queryright.py.) -/
import Derived.Test.YtfaeckaeaeadeaaGreatDoorSpecQa
import Derived.Test.YtfaeckaeaeadeaaGreatDoorSpecQb
import Derived.Test.YtfaeckaeaeadeaaGreatDoorSpecQc
import Derived.Test.YtfaeckaeaeadeaaGreatDoorSpecQd
import Derived.Test.YtfaeckaeaeadeaaGreatDoorSpecQe
set_option linter.unusedVariables false
namespace Go.Proofs.YtfaeckaeaeadeaaGreatDoor
open Go.RowKit Go.Lib Go.Maps
set_option maxHeartbeats 8000000 in
set_option maxRecDepth 20000 in
theorem specQ0 (k : Int) (h0 : ¬ (1 ≤ k ∧ k ≤ 16)) (nm tx : ByteArray) (nu : Int) (u : List GRange) (kd : List Int) (a4 a5 : Option Addr) (c4 c5 : Nat) (w : World) (hu : u.length ≤ 1048576) (hk : kd.length ≤ 1048576) :
    Calls Tryz.prog 41 #[.agg #[.int .i64 k, .string nm, .string tx, .int .i64 nu, .slice a4 u.length c4, .slice a5 kd.length c5]] w fun e w' => e = .returned (.bool false) ∧ Below w.heap.size w w' := by
  have n1 : (k == 1) = false := by rw [beq_eq_false_iff_ne]; omega
  have n2 : (k == 2) = false := by rw [beq_eq_false_iff_ne]; omega
  have n3 : (k == 3) = false := by rw [beq_eq_false_iff_ne]; omega
  have n4 : (k == 4) = false := by rw [beq_eq_false_iff_ne]; omega
  have n5 : (k == 5) = false := by rw [beq_eq_false_iff_ne]; omega
  have n6 : (k == 6) = false := by rw [beq_eq_false_iff_ne]; omega
  have n7 : (k == 7) = false := by rw [beq_eq_false_iff_ne]; omega
  have n8 : (k == 8) = false := by rw [beq_eq_false_iff_ne]; omega
  have n9 : (k == 9) = false := by rw [beq_eq_false_iff_ne]; omega
  have n10 : (k == 10) = false := by rw [beq_eq_false_iff_ne]; omega
  have n11 : (k == 11) = false := by rw [beq_eq_false_iff_ne]; omega
  have n12 : (k == 12) = false := by rw [beq_eq_false_iff_ne]; omega
  have n13 : (k == 13) = false := by rw [beq_eq_false_iff_ne]; omega
  have n14 : (k == 14) = false := by rw [beq_eq_false_iff_ne]; omega
  have n15 : (k == 15) = false := by rw [beq_eq_false_iff_ne]; omega
  have n16 : (k == 16) = false := by rw [beq_eq_false_iff_ne]; omega
  go_enter Tryz.func41, Tryz.ntmps41
  go_wp2
  go_ret
  exact ⟨rfl, (Below.refl _ _).alloc (Nat.le_refl _) _⟩
set_option maxRecDepth 20000 in
theorem Qu.len0 (n m : Nat) : ((n : Int) == (m : Int)) = decide (n = m) := by rw [Bool.eq_iff_iff]; simp; omega
set_option maxRecDepth 20000 in
theorem Qu.le2 (n : Nat) : decide ((2 : Int) ≤ (n : Int)) = decide (2 ≤ n) := by rw [Bool.eq_iff_iff]; simp; omega
set_option maxRecDepth 20000 in
theorem Qu.le200 (n : Nat) : decide ((n : Int) ≤ 200) = decide (n ≤ 200) := by rw [Bool.eq_iff_iff]; simp; omega
set_option maxRecDepth 20000 in
theorem specQRight (n : GQueryNode) (v4 v5 : Value) (lo : Nat) (w : World) (hI : GQueryNodeIn lo w.heap.size w n v4 v5) (hf : n.fits 1048576) :
    Calls Tryz.prog 41 #[GQueryNodeV n v4 v5] w fun e w' => e = .returned (.bool (Qu.right n)) ∧ Below w.heap.size w w' := by
  obtain ⟨⟨a4, c4, rfl, t4⟩, ⟨a5, c5, rfl, -⟩⟩ := hI
  obtain ⟨f1, f2, f4, -, f5⟩ := hf
  unfold Qu.right GQueryNodeV
  by_cases hk : 1 ≤ n.kind ∧ n.kind ≤ 16
  · rw [if_pos hk]
    have l0 := Qu.len0 n.uids.length 0
    have l1 := Qu.len0 n.kids.length 0
    have hkc : n.kind = 1 ∨ n.kind = 2 ∨ n.kind = 3 ∨ n.kind = 4 ∨ n.kind = 5 ∨ n.kind = 6 ∨ n.kind = 7 ∨ n.kind = 8 ∨ n.kind = 9 ∨ n.kind = 10 ∨ n.kind = 11 ∨ n.kind = 12 ∨ n.kind = 13 ∨ n.kind = 14 ∨ n.kind = 15 ∨ n.kind = 16 := by omega
    rcases hkc with hkk | hkk | hkk | hkk | hkk | hkk | hkk | hkk | hkk | hkk | hkk | hkk | hkk | hkk | hkk | hkk
    · rw [hkk]
      refine (specQ1 n.name n.text n.num n.uids n.kids a4 a5 c4 c5 lo w t4 f1 f2 f4 f5).mono ?_
      rintro e w1 ⟨rfl, hb⟩
      refine ⟨?_, hb⟩
      congr 2
      unfold Qu.five Qu.parts Qu.emp
      have e0 : ((n.uids.length : Int) == 0) = decide (n.uids.length = 0) := Qu.len0 _ 0
      have e1 : ((n.kids.length : Int) == 0) = decide (n.kids.length = 0) := Qu.len0 _ 0
      have e2 : ((n.kids.length : Int) == 1) = decide (n.kids.length = 1) := Qu.len0 _ 1
      have e3 : ((n.kids.length : Int) == 2) = decide (n.kids.length = 2) := Qu.len0 _ 2
      have e4 := Qu.le2 n.kids.length
      have e5 := Qu.le200 n.text.size
      clear f1 f2 f4 f5 l0 l1 hk hkk t4 hb
      simp [*]
    · rw [hkk]
      refine (specQ2 n.name n.text n.num n.uids n.kids a4 a5 c4 c5 lo w t4 f1 f2 f4 f5).mono ?_
      rintro e w1 ⟨rfl, hb⟩
      refine ⟨?_, hb⟩
      congr 2
      unfold Qu.five Qu.parts Qu.emp
      have e0 : ((n.uids.length : Int) == 0) = decide (n.uids.length = 0) := Qu.len0 _ 0
      have e1 : ((n.kids.length : Int) == 0) = decide (n.kids.length = 0) := Qu.len0 _ 0
      have e2 : ((n.kids.length : Int) == 1) = decide (n.kids.length = 1) := Qu.len0 _ 1
      have e3 : ((n.kids.length : Int) == 2) = decide (n.kids.length = 2) := Qu.len0 _ 2
      have e4 := Qu.le2 n.kids.length
      have e5 := Qu.le200 n.text.size
      clear f1 f2 f4 f5 l0 l1 hk hkk t4 hb
      simp [*]
    · rw [hkk]
      refine (specQ3 n.name n.text n.num n.uids n.kids a4 a5 c4 c5 lo w t4 f1 f2 f4 f5).mono ?_
      rintro e w1 ⟨rfl, hb⟩
      refine ⟨?_, hb⟩
      congr 2
      unfold Qu.five Qu.parts Qu.emp
      have e0 : ((n.uids.length : Int) == 0) = decide (n.uids.length = 0) := Qu.len0 _ 0
      have e1 : ((n.kids.length : Int) == 0) = decide (n.kids.length = 0) := Qu.len0 _ 0
      have e2 : ((n.kids.length : Int) == 1) = decide (n.kids.length = 1) := Qu.len0 _ 1
      have e3 : ((n.kids.length : Int) == 2) = decide (n.kids.length = 2) := Qu.len0 _ 2
      have e4 := Qu.le2 n.kids.length
      have e5 := Qu.le200 n.text.size
      clear f1 f2 f4 f5 l0 l1 hk hkk t4 hb
      simp [*]
    · rw [hkk]
      refine (specQ4 n.name n.text n.num n.uids n.kids a4 a5 c4 c5 lo w t4 f1 f2 f4 f5).mono ?_
      rintro e w1 ⟨rfl, hb⟩
      refine ⟨?_, hb⟩
      congr 2
      unfold Qu.five Qu.parts Qu.emp
      have e0 : ((n.uids.length : Int) == 0) = decide (n.uids.length = 0) := Qu.len0 _ 0
      have e1 : ((n.kids.length : Int) == 0) = decide (n.kids.length = 0) := Qu.len0 _ 0
      have e2 : ((n.kids.length : Int) == 1) = decide (n.kids.length = 1) := Qu.len0 _ 1
      have e3 : ((n.kids.length : Int) == 2) = decide (n.kids.length = 2) := Qu.len0 _ 2
      have e4 := Qu.le2 n.kids.length
      have e5 := Qu.le200 n.text.size
      clear f1 f2 f4 f5 l0 l1 hk hkk t4 hb
      simp [*]
    · rw [hkk]
      refine (specQ5 n.name n.text n.num n.uids n.kids a4 a5 c4 c5 lo w t4 f1 f2 f4 f5).mono ?_
      rintro e w1 ⟨rfl, hb⟩
      refine ⟨?_, hb⟩
      congr 2
      unfold Qu.five Qu.parts Qu.emp
      have e0 : ((n.uids.length : Int) == 0) = decide (n.uids.length = 0) := Qu.len0 _ 0
      have e1 : ((n.kids.length : Int) == 0) = decide (n.kids.length = 0) := Qu.len0 _ 0
      have e2 : ((n.kids.length : Int) == 1) = decide (n.kids.length = 1) := Qu.len0 _ 1
      have e3 : ((n.kids.length : Int) == 2) = decide (n.kids.length = 2) := Qu.len0 _ 2
      have e4 := Qu.le2 n.kids.length
      have e5 := Qu.le200 n.text.size
      clear f1 f2 f4 f5 l0 l1 hk hkk t4 hb
      simp [*]
    · rw [hkk]
      refine (specQ6 n.name n.text n.num n.uids n.kids a4 a5 c4 c5 lo w t4 f1 f2 f4 f5).mono ?_
      rintro e w1 ⟨rfl, hb⟩
      refine ⟨?_, hb⟩
      congr 2
      unfold Qu.five Qu.parts Qu.emp
      have e0 : ((n.uids.length : Int) == 0) = decide (n.uids.length = 0) := Qu.len0 _ 0
      have e1 : ((n.kids.length : Int) == 0) = decide (n.kids.length = 0) := Qu.len0 _ 0
      have e2 : ((n.kids.length : Int) == 1) = decide (n.kids.length = 1) := Qu.len0 _ 1
      have e3 : ((n.kids.length : Int) == 2) = decide (n.kids.length = 2) := Qu.len0 _ 2
      have e4 := Qu.le2 n.kids.length
      have e5 := Qu.le200 n.text.size
      clear f1 f2 f4 f5 l0 l1 hk hkk t4 hb
      simp [*]
    · rw [hkk]
      refine (specQ7 n.name n.text n.num n.uids n.kids a4 a5 c4 c5 lo w t4 f1 f2 f4 f5).mono ?_
      rintro e w1 ⟨rfl, hb⟩
      refine ⟨?_, hb⟩
      congr 2
      unfold Qu.five Qu.parts Qu.emp
      have e0 : ((n.uids.length : Int) == 0) = decide (n.uids.length = 0) := Qu.len0 _ 0
      have e1 : ((n.kids.length : Int) == 0) = decide (n.kids.length = 0) := Qu.len0 _ 0
      have e2 : ((n.kids.length : Int) == 1) = decide (n.kids.length = 1) := Qu.len0 _ 1
      have e3 : ((n.kids.length : Int) == 2) = decide (n.kids.length = 2) := Qu.len0 _ 2
      have e4 := Qu.le2 n.kids.length
      have e5 := Qu.le200 n.text.size
      clear f1 f2 f4 f5 l0 l1 hk hkk t4 hb
      simp [*]
    · rw [hkk]
      refine (specQ8 n.name n.text n.num n.uids n.kids a4 a5 c4 c5 lo w t4 f1 f2 f4 f5).mono ?_
      rintro e w1 ⟨rfl, hb⟩
      refine ⟨?_, hb⟩
      congr 2
      unfold Qu.five Qu.parts Qu.emp
      have e0 : ((n.uids.length : Int) == 0) = decide (n.uids.length = 0) := Qu.len0 _ 0
      have e1 : ((n.kids.length : Int) == 0) = decide (n.kids.length = 0) := Qu.len0 _ 0
      have e2 : ((n.kids.length : Int) == 1) = decide (n.kids.length = 1) := Qu.len0 _ 1
      have e3 : ((n.kids.length : Int) == 2) = decide (n.kids.length = 2) := Qu.len0 _ 2
      have e4 := Qu.le2 n.kids.length
      have e5 := Qu.le200 n.text.size
      clear f1 f2 f4 f5 l0 l1 hk hkk t4 hb
      simp [*]
    · rw [hkk]
      refine (specQ9 n.name n.text n.num n.uids n.kids a4 a5 c4 c5 lo w t4 f1 f2 f4 f5).mono ?_
      rintro e w1 ⟨rfl, hb⟩
      refine ⟨?_, hb⟩
      congr 2
      unfold Qu.five Qu.parts Qu.emp
      have e0 : ((n.uids.length : Int) == 0) = decide (n.uids.length = 0) := Qu.len0 _ 0
      have e1 : ((n.kids.length : Int) == 0) = decide (n.kids.length = 0) := Qu.len0 _ 0
      have e2 : ((n.kids.length : Int) == 1) = decide (n.kids.length = 1) := Qu.len0 _ 1
      have e3 : ((n.kids.length : Int) == 2) = decide (n.kids.length = 2) := Qu.len0 _ 2
      have e4 := Qu.le2 n.kids.length
      have e5 := Qu.le200 n.text.size
      clear f1 f2 f4 f5 l0 l1 hk hkk t4 hb
      simp [*]
    · rw [hkk]
      refine (specQ10 n.name n.text n.num n.uids n.kids a4 a5 c4 c5 lo w t4 f1 f2 f4 f5).mono ?_
      rintro e w1 ⟨rfl, hb⟩
      refine ⟨?_, hb⟩
      congr 2
      unfold Qu.five Qu.parts Qu.emp
      have e0 : ((n.uids.length : Int) == 0) = decide (n.uids.length = 0) := Qu.len0 _ 0
      have e1 : ((n.kids.length : Int) == 0) = decide (n.kids.length = 0) := Qu.len0 _ 0
      have e2 : ((n.kids.length : Int) == 1) = decide (n.kids.length = 1) := Qu.len0 _ 1
      have e3 : ((n.kids.length : Int) == 2) = decide (n.kids.length = 2) := Qu.len0 _ 2
      have e4 := Qu.le2 n.kids.length
      have e5 := Qu.le200 n.text.size
      clear f1 f2 f4 f5 l0 l1 hk hkk t4 hb
      simp [*]
    · rw [hkk]
      refine (specQ11 n.name n.text n.num n.uids n.kids a4 a5 c4 c5 lo w t4 f1 f2 f4 f5).mono ?_
      rintro e w1 ⟨rfl, hb⟩
      refine ⟨?_, hb⟩
      congr 2
      unfold Qu.five Qu.parts Qu.emp
      have e0 : ((n.uids.length : Int) == 0) = decide (n.uids.length = 0) := Qu.len0 _ 0
      have e1 : ((n.kids.length : Int) == 0) = decide (n.kids.length = 0) := Qu.len0 _ 0
      have e2 : ((n.kids.length : Int) == 1) = decide (n.kids.length = 1) := Qu.len0 _ 1
      have e3 : ((n.kids.length : Int) == 2) = decide (n.kids.length = 2) := Qu.len0 _ 2
      have e4 := Qu.le2 n.kids.length
      have e5 := Qu.le200 n.text.size
      clear f1 f2 f4 f5 l0 l1 hk hkk t4 hb
      simp [*]
    · rw [hkk]
      refine (specQ12 n.name n.text n.num n.uids n.kids a4 a5 c4 c5 lo w t4 f1 f2 f4 f5).mono ?_
      rintro e w1 ⟨rfl, hb⟩
      refine ⟨?_, hb⟩
      congr 2
      unfold Qu.five Qu.parts Qu.emp
      have e0 : ((n.uids.length : Int) == 0) = decide (n.uids.length = 0) := Qu.len0 _ 0
      have e1 : ((n.kids.length : Int) == 0) = decide (n.kids.length = 0) := Qu.len0 _ 0
      have e2 : ((n.kids.length : Int) == 1) = decide (n.kids.length = 1) := Qu.len0 _ 1
      have e3 : ((n.kids.length : Int) == 2) = decide (n.kids.length = 2) := Qu.len0 _ 2
      have e4 := Qu.le2 n.kids.length
      have e5 := Qu.le200 n.text.size
      clear f1 f2 f4 f5 l0 l1 hk hkk t4 hb
      simp [*]
    · rw [hkk]
      refine (specQ13 n.name n.text n.num n.uids n.kids a4 a5 c4 c5 lo w t4 f1 f2 f4 f5).mono ?_
      rintro e w1 ⟨rfl, hb⟩
      refine ⟨?_, hb⟩
      congr 2
      unfold Qu.five Qu.parts Qu.emp
      have e0 : ((n.uids.length : Int) == 0) = decide (n.uids.length = 0) := Qu.len0 _ 0
      have e1 : ((n.kids.length : Int) == 0) = decide (n.kids.length = 0) := Qu.len0 _ 0
      have e2 : ((n.kids.length : Int) == 1) = decide (n.kids.length = 1) := Qu.len0 _ 1
      have e3 : ((n.kids.length : Int) == 2) = decide (n.kids.length = 2) := Qu.len0 _ 2
      have e4 := Qu.le2 n.kids.length
      have e5 := Qu.le200 n.text.size
      clear f1 f2 f4 f5 l0 l1 hk hkk t4 hb
      simp [*]
    · rw [hkk]
      refine (specQ14 n.name n.text n.num n.uids n.kids a4 a5 c4 c5 lo w t4 f1 f2 f4 f5).mono ?_
      rintro e w1 ⟨rfl, hb⟩
      refine ⟨?_, hb⟩
      congr 2
      unfold Qu.five Qu.parts Qu.emp
      have e0 : ((n.uids.length : Int) == 0) = decide (n.uids.length = 0) := Qu.len0 _ 0
      have e1 : ((n.kids.length : Int) == 0) = decide (n.kids.length = 0) := Qu.len0 _ 0
      have e2 : ((n.kids.length : Int) == 1) = decide (n.kids.length = 1) := Qu.len0 _ 1
      have e3 : ((n.kids.length : Int) == 2) = decide (n.kids.length = 2) := Qu.len0 _ 2
      have e4 := Qu.le2 n.kids.length
      have e5 := Qu.le200 n.text.size
      clear f1 f2 f4 f5 l0 l1 hk hkk t4 hb
      simp [*]
    · rw [hkk]
      refine (specQ15 n.name n.text n.num n.uids n.kids a4 a5 c4 c5 lo w t4 f1 f2 f4 f5).mono ?_
      rintro e w1 ⟨rfl, hb⟩
      refine ⟨?_, hb⟩
      congr 2
      unfold Qu.five Qu.parts Qu.emp
      have e0 : ((n.uids.length : Int) == 0) = decide (n.uids.length = 0) := Qu.len0 _ 0
      have e1 : ((n.kids.length : Int) == 0) = decide (n.kids.length = 0) := Qu.len0 _ 0
      have e2 : ((n.kids.length : Int) == 1) = decide (n.kids.length = 1) := Qu.len0 _ 1
      have e3 : ((n.kids.length : Int) == 2) = decide (n.kids.length = 2) := Qu.len0 _ 2
      have e4 := Qu.le2 n.kids.length
      have e5 := Qu.le200 n.text.size
      clear f1 f2 f4 f5 l0 l1 hk hkk t4 hb
      simp [*]
    · rw [hkk]
      refine (specQ16 n.name n.text n.num n.uids n.kids a4 a5 c4 c5 lo w t4 f1 f2 f4 f5).mono ?_
      rintro e w1 ⟨rfl, hb⟩
      refine ⟨?_, hb⟩
      congr 2
      unfold Qu.five Qu.parts Qu.emp
      have e0 : ((n.uids.length : Int) == 0) = decide (n.uids.length = 0) := Qu.len0 _ 0
      have e1 : ((n.kids.length : Int) == 0) = decide (n.kids.length = 0) := Qu.len0 _ 0
      have e2 : ((n.kids.length : Int) == 1) = decide (n.kids.length = 1) := Qu.len0 _ 1
      have e3 : ((n.kids.length : Int) == 2) = decide (n.kids.length = 2) := Qu.len0 _ 2
      have e4 := Qu.le2 n.kids.length
      have e5 := Qu.le200 n.text.size
      clear f1 f2 f4 f5 l0 l1 hk hkk t4 hb
      simp [*]
  · rw [if_neg hk]
    exact specQ0 n.kind hk n.name n.text n.num n.uids n.kids a4 a5 c4 c5 w f4 f5
end Go.Proofs.YtfaeckaeaeadeaaGreatDoor
