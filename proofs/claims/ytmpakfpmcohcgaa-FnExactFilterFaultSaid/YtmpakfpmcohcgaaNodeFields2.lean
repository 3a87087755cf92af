
/- What a node's fields may be, on the specification's side: the kinds with lists of texts; all kinds. -/
import Derived.Test.YtmpakfpmcohcgaaNodeFields
namespace Go.Proofs.Ytmpakfpmcohcgaa
open Go.RowKit Go.Lib Go.Maps
set_option maxHeartbeats 2000000 in
set_option maxRecDepth 20000 in
theorem specF28 (num mat : Int) (text : ByteArray) (names keys : List ByteArray) (a1 a2 a3 : Option Addr) (c1 c2 c3 nk : Nat) (w : World) (h1 : Tx w.heap.size w a1 names) (h2 : names.length ≤ 1048576) (h3 : ∀ t ∈ names, t.size ≤ 1048576) :
    Calls Try.prog 17 #[.agg #[.int .i64 28, .int .i64 num, .int .i64 mat, .string text, .slice a1 names.length c1, .slice a2 keys.length c2, .slice a3 nk c3]] w fun e w' => e = .returned (.bool ((num == 0) && ((mat == 0) && (text.toList.isEmpty && (Fn.textsOk names && ((keys.length : Int) == 0)))))) ∧ Below w.heap.size w w' := by
  have hbA : Below w.heap.size w (w.alloc (.cells #[.int .i64 28, .int .i64 num, .int .i64 mat, .string text, .slice a1 names.length c1, .slice a2 keys.length c2, .slice a3 nk c3] 34)) := (Below.refl _ _).alloc (Nat.le_refl _) _
  have hC := mkH (specTexts a1 names c1 (w.alloc (.cells #[.int .i64 28, .int .i64 num, .int .i64 mat, .string text, .slice a1 names.length c1, .slice a2 keys.length c2, .slice a3 nk c3] 34)) ((h1.below hbA).mono hbA.size) h2 h3)
  clear h1 h2 h3 hbA
  generalize Fn.textsOk names = A at *
  go_enter Try.func17, Try.ntmps17
  go_wp2_with fail
  refine hC.out.mono ?_
  rintro e w2 ⟨rfl, rfl⟩
  clear hC
  go_wp2
  all_goals
    go_ret
    refine ⟨?_, (Below.refl _ _).alloc (Nat.le_refl _) _⟩
    show Ending.returned (Value.bool _) = Ending.returned (Value.bool _)
    congr 2 <;> simp_all
  all_goals first | done | omega | (intros; omega) | (intros; simp_all; done) | (intros; simp_all; omega)
set_option maxHeartbeats 2000000 in
set_option maxRecDepth 20000 in
theorem specF25 (num mat : Int) (text : ByteArray) (names keys : List ByteArray) (a1 a2 a3 : Option Addr) (c1 c2 c3 nk : Nat) (w : World) (h1 : Tx w.heap.size w a1 names) (h2 : names.length ≤ 1048576) (h3 : ∀ t ∈ names, t.size ≤ 1048576) (h4 : Tx w.heap.size w a2 keys) (h5 : keys.length ≤ 1048576) (h6 : ∀ t ∈ keys, t.size ≤ 1048576) :
    Calls Try.prog 17 #[.agg #[.int .i64 25, .int .i64 num, .int .i64 mat, .string text, .slice a1 names.length c1, .slice a2 keys.length c2, .slice a3 nk c3]] w fun e w' => e = .returned (.bool ((num == 0) && ((decide (0 ≤ mat) && decide (mat ≤ 2)) && (text.toList.isEmpty && (Fn.textsOk names && Fn.textsOk keys))))) ∧ Below w.heap.size w w' := by
  have hbA : Below w.heap.size w (w.alloc (.cells #[.int .i64 25, .int .i64 num, .int .i64 mat, .string text, .slice a1 names.length c1, .slice a2 keys.length c2, .slice a3 nk c3] 34)) := (Below.refl _ _).alloc (Nat.le_refl _) _
  have hC := mkH (specTexts a1 names c1 (w.alloc (.cells #[.int .i64 25, .int .i64 num, .int .i64 mat, .string text, .slice a1 names.length c1, .slice a2 keys.length c2, .slice a3 nk c3] 34)) ((h1.below hbA).mono hbA.size) h2 h3)
  have hD := mkH (specTexts a2 keys c2 (w.alloc (.cells #[.int .i64 25, .int .i64 num, .int .i64 mat, .string text, .slice a1 names.length c1, .slice a2 keys.length c2, .slice a3 nk c3] 34)) ((h4.below hbA).mono hbA.size) h5 h6)
  clear h1 h2 h3 h4 h5 h6 hbA
  generalize Fn.textsOk names = A at *
  generalize Fn.textsOk keys = B at *
  by_cases hm0 : 0 ≤ mat
  · have hm0' : decide (0 ≤ mat) = true := by simpa using hm0
    go_enter Try.func17, Try.ntmps17
    go_wp2_with fail
    refine hC.out.mono ?_
    rintro e w2 ⟨rfl, rfl⟩
    go_wp2_with fail
    refine hD.out.mono ?_
    rintro e w2 ⟨rfl, rfl⟩
    clear hC hD
    go_wp2
    all_goals
      go_ret
      refine ⟨?_, (Below.refl _ _).alloc (Nat.le_refl _) _⟩
      show Ending.returned (Value.bool _) = Ending.returned (Value.bool _)
      congr 2 <;> simp_all
    all_goals first | done | omega | (intros; omega) | (intros; simp_all; done) | (intros; simp_all; omega)
  · have hm0' : decide (0 ≤ mat) = false := by simpa using hm0
    go_enter Try.func17, Try.ntmps17
    go_wp2_with fail
    refine hC.out.mono ?_
    rintro e w2 ⟨rfl, rfl⟩
    go_wp2_with fail
    refine hD.out.mono ?_
    rintro e w2 ⟨rfl, rfl⟩
    clear hC hD
    go_wp2
    all_goals
      go_ret
      refine ⟨?_, (Below.refl _ _).alloc (Nat.le_refl _) _⟩
      show Ending.returned (Value.bool _) = Ending.returned (Value.bool _)
      congr 2 <;> simp_all
    all_goals first | done | omega | (intros; omega) | (intros; simp_all; done) | (intros; simp_all; omega)
set_option maxHeartbeats 2000000 in
set_option maxRecDepth 20000 in
theorem specF26 (num mat : Int) (text : ByteArray) (names keys : List ByteArray) (a1 a2 a3 : Option Addr) (c1 c2 c3 nk : Nat) (w : World) (h1 : Tx w.heap.size w a1 names) (h2 : names.length ≤ 1048576) (h3 : ∀ t ∈ names, t.size ≤ 1048576) (h4 : Tx w.heap.size w a2 keys) (h5 : keys.length ≤ 1048576) (h6 : ∀ t ∈ keys, t.size ≤ 1048576) :
    Calls Try.prog 17 #[.agg #[.int .i64 26, .int .i64 num, .int .i64 mat, .string text, .slice a1 names.length c1, .slice a2 keys.length c2, .slice a3 nk c3]] w fun e w' => e = .returned (.bool ((num == 0) && ((decide (0 ≤ mat) && decide (mat ≤ 2)) && (text.toList.isEmpty && (Fn.textsOk names && Fn.textsOk keys))))) ∧ Below w.heap.size w w' := by
  have hbA : Below w.heap.size w (w.alloc (.cells #[.int .i64 26, .int .i64 num, .int .i64 mat, .string text, .slice a1 names.length c1, .slice a2 keys.length c2, .slice a3 nk c3] 34)) := (Below.refl _ _).alloc (Nat.le_refl _) _
  have hC := mkH (specTexts a1 names c1 (w.alloc (.cells #[.int .i64 26, .int .i64 num, .int .i64 mat, .string text, .slice a1 names.length c1, .slice a2 keys.length c2, .slice a3 nk c3] 34)) ((h1.below hbA).mono hbA.size) h2 h3)
  have hD := mkH (specTexts a2 keys c2 (w.alloc (.cells #[.int .i64 26, .int .i64 num, .int .i64 mat, .string text, .slice a1 names.length c1, .slice a2 keys.length c2, .slice a3 nk c3] 34)) ((h4.below hbA).mono hbA.size) h5 h6)
  clear h1 h2 h3 h4 h5 h6 hbA
  generalize Fn.textsOk names = A at *
  generalize Fn.textsOk keys = B at *
  by_cases hm0 : 0 ≤ mat
  · have hm0' : decide (0 ≤ mat) = true := by simpa using hm0
    go_enter Try.func17, Try.ntmps17
    go_wp2_with fail
    refine hC.out.mono ?_
    rintro e w2 ⟨rfl, rfl⟩
    go_wp2_with fail
    refine hD.out.mono ?_
    rintro e w2 ⟨rfl, rfl⟩
    clear hC hD
    go_wp2
    all_goals
      go_ret
      refine ⟨?_, (Below.refl _ _).alloc (Nat.le_refl _) _⟩
      show Ending.returned (Value.bool _) = Ending.returned (Value.bool _)
      congr 2 <;> simp_all
    all_goals first | done | omega | (intros; omega) | (intros; simp_all; done) | (intros; simp_all; omega)
  · have hm0' : decide (0 ≤ mat) = false := by simpa using hm0
    go_enter Try.func17, Try.ntmps17
    go_wp2_with fail
    refine hC.out.mono ?_
    rintro e w2 ⟨rfl, rfl⟩
    go_wp2_with fail
    refine hD.out.mono ?_
    rintro e w2 ⟨rfl, rfl⟩
    clear hC hD
    go_wp2
    all_goals
      go_ret
      refine ⟨?_, (Below.refl _ _).alloc (Nat.le_refl _) _⟩
      show Ending.returned (Value.bool _) = Ending.returned (Value.bool _)
      congr 2 <;> simp_all
    all_goals first | done | omega | (intros; omega) | (intros; simp_all; done) | (intros; simp_all; omega)
set_option maxHeartbeats 2000000 in
set_option maxRecDepth 20000 in
theorem specF27 (num mat : Int) (text : ByteArray) (names keys : List ByteArray) (a1 a2 a3 : Option Addr) (c1 c2 c3 nk : Nat) (w : World) (h1 : Tx w.heap.size w a1 names) (h2 : names.length ≤ 1048576) (h3 : ∀ t ∈ names, t.size ≤ 1048576) (h4 : Tx w.heap.size w a2 keys) (h5 : keys.length ≤ 1048576) (h6 : ∀ t ∈ keys, t.size ≤ 1048576) :
    Calls Try.prog 17 #[.agg #[.int .i64 27, .int .i64 num, .int .i64 mat, .string text, .slice a1 names.length c1, .slice a2 keys.length c2, .slice a3 nk c3]] w fun e w' => e = .returned (.bool ((num == 0) && ((decide (0 ≤ mat) && decide (mat ≤ 2)) && (text.toList.isEmpty && (Fn.textsOk names && Fn.textsOk keys))))) ∧ Below w.heap.size w w' := by
  have hbA : Below w.heap.size w (w.alloc (.cells #[.int .i64 27, .int .i64 num, .int .i64 mat, .string text, .slice a1 names.length c1, .slice a2 keys.length c2, .slice a3 nk c3] 34)) := (Below.refl _ _).alloc (Nat.le_refl _) _
  have hC := mkH (specTexts a1 names c1 (w.alloc (.cells #[.int .i64 27, .int .i64 num, .int .i64 mat, .string text, .slice a1 names.length c1, .slice a2 keys.length c2, .slice a3 nk c3] 34)) ((h1.below hbA).mono hbA.size) h2 h3)
  have hD := mkH (specTexts a2 keys c2 (w.alloc (.cells #[.int .i64 27, .int .i64 num, .int .i64 mat, .string text, .slice a1 names.length c1, .slice a2 keys.length c2, .slice a3 nk c3] 34)) ((h4.below hbA).mono hbA.size) h5 h6)
  clear h1 h2 h3 h4 h5 h6 hbA
  generalize Fn.textsOk names = A at *
  generalize Fn.textsOk keys = B at *
  by_cases hm0 : 0 ≤ mat
  · have hm0' : decide (0 ≤ mat) = true := by simpa using hm0
    go_enter Try.func17, Try.ntmps17
    go_wp2_with fail
    refine hC.out.mono ?_
    rintro e w2 ⟨rfl, rfl⟩
    go_wp2_with fail
    refine hD.out.mono ?_
    rintro e w2 ⟨rfl, rfl⟩
    clear hC hD
    go_wp2
    all_goals
      go_ret
      refine ⟨?_, (Below.refl _ _).alloc (Nat.le_refl _) _⟩
      show Ending.returned (Value.bool _) = Ending.returned (Value.bool _)
      congr 2 <;> simp_all
    all_goals first | done | omega | (intros; omega) | (intros; simp_all; done) | (intros; simp_all; omega)
  · have hm0' : decide (0 ≤ mat) = false := by simpa using hm0
    go_enter Try.func17, Try.ntmps17
    go_wp2_with fail
    refine hC.out.mono ?_
    rintro e w2 ⟨rfl, rfl⟩
    go_wp2_with fail
    refine hD.out.mono ?_
    rintro e w2 ⟨rfl, rfl⟩
    clear hC hD
    go_wp2
    all_goals
      go_ret
      refine ⟨?_, (Below.refl _ _).alloc (Nat.le_refl _) _⟩
      show Ending.returned (Value.bool _) = Ending.returned (Value.bool _)
      congr 2 <;> simp_all
    all_goals first | done | omega | (intros; omega) | (intros; simp_all; done) | (intros; simp_all; omega)
set_option maxHeartbeats 2000000 in
set_option maxRecDepth 20000 in
theorem specF31 (num mat : Int) (text : ByteArray) (names keys : List ByteArray) (a1 a2 a3 : Option Addr) (c1 c2 c3 nk : Nat) (w : World) (h1 : Tx w.heap.size w a1 names) (h2 : names.length ≤ 1048576) (h3 : ∀ t ∈ names, t.size ≤ 1048576) (h4 : Tx w.heap.size w a2 keys) (h5 : keys.length ≤ 1048576) (h6 : ∀ t ∈ keys, t.size ≤ 1048576) :
    Calls Try.prog 17 #[.agg #[.int .i64 31, .int .i64 num, .int .i64 mat, .string text, .slice a1 names.length c1, .slice a2 keys.length c2, .slice a3 nk c3]] w fun e w' => e = .returned (.bool ((num == 0) && ((decide (0 ≤ mat) && decide (mat ≤ 2)) && (text.toList.isEmpty && (Fn.textsOk names && Fn.textsOk keys))))) ∧ Below w.heap.size w w' := by
  have hbA : Below w.heap.size w (w.alloc (.cells #[.int .i64 31, .int .i64 num, .int .i64 mat, .string text, .slice a1 names.length c1, .slice a2 keys.length c2, .slice a3 nk c3] 34)) := (Below.refl _ _).alloc (Nat.le_refl _) _
  have hC := mkH (specTexts a1 names c1 (w.alloc (.cells #[.int .i64 31, .int .i64 num, .int .i64 mat, .string text, .slice a1 names.length c1, .slice a2 keys.length c2, .slice a3 nk c3] 34)) ((h1.below hbA).mono hbA.size) h2 h3)
  have hD := mkH (specTexts a2 keys c2 (w.alloc (.cells #[.int .i64 31, .int .i64 num, .int .i64 mat, .string text, .slice a1 names.length c1, .slice a2 keys.length c2, .slice a3 nk c3] 34)) ((h4.below hbA).mono hbA.size) h5 h6)
  clear h1 h2 h3 h4 h5 h6 hbA
  generalize Fn.textsOk names = A at *
  generalize Fn.textsOk keys = B at *
  by_cases hm0 : 0 ≤ mat
  · have hm0' : decide (0 ≤ mat) = true := by simpa using hm0
    go_enter Try.func17, Try.ntmps17
    go_wp2_with fail
    refine hC.out.mono ?_
    rintro e w2 ⟨rfl, rfl⟩
    go_wp2_with fail
    refine hD.out.mono ?_
    rintro e w2 ⟨rfl, rfl⟩
    clear hC hD
    go_wp2
    all_goals
      go_ret
      refine ⟨?_, (Below.refl _ _).alloc (Nat.le_refl _) _⟩
      show Ending.returned (Value.bool _) = Ending.returned (Value.bool _)
      congr 2 <;> simp_all
    all_goals first | done | omega | (intros; omega) | (intros; simp_all; done) | (intros; simp_all; omega)
  · have hm0' : decide (0 ≤ mat) = false := by simpa using hm0
    go_enter Try.func17, Try.ntmps17
    go_wp2_with fail
    refine hC.out.mono ?_
    rintro e w2 ⟨rfl, rfl⟩
    go_wp2_with fail
    refine hD.out.mono ?_
    rintro e w2 ⟨rfl, rfl⟩
    clear hC hD
    go_wp2
    all_goals
      go_ret
      refine ⟨?_, (Below.refl _ _).alloc (Nat.le_refl _) _⟩
      show Ending.returned (Value.bool _) = Ending.returned (Value.bool _)
      congr 2 <;> simp_all
    all_goals first | done | omega | (intros; omega) | (intros; simp_all; done) | (intros; simp_all; omega)
set_option maxHeartbeats 2000000 in
set_option maxRecDepth 20000 in
theorem specF11no (num mat : Int) (text : ByteArray) (names keys : List ByteArray) (a1 a2 a3 : Option Addr) (c1 c2 c3 nk : Nat) (w : World) (_ : text.size ≤ 1048576) (hl : ((names.length : Int) == 1) = false) :
    Calls Try.prog 17 #[.agg #[.int .i64 11, .int .i64 num, .int .i64 mat, .string text, .slice a1 names.length c1, .slice a2 keys.length c2, .slice a3 nk c3]] w fun e w' => e = .returned (.bool ((num == 0) && ((mat == 0) && (decide ((text.size : Int) ≤ 1000) && (false && ((keys.length : Int) == 0)))))) ∧ Below w.heap.size w w' := by
  go_enter Try.func17, Try.ntmps17
  go_wp2
  all_goals
    go_ret
    refine ⟨?_, (Below.refl _ _).alloc (Nat.le_refl _) _⟩
    show Ending.returned (Value.bool _) = Ending.returned (Value.bool _)
    congr 2 <;> simp_all
  all_goals first | done | omega | (intros; omega) | (intros; simp_all; done) | (intros; simp_all; omega)
set_option maxHeartbeats 2000000 in
set_option maxRecDepth 20000 in
theorem specF11yes (num mat : Int) (text t : ByteArray) (keys : List ByteArray) (a : Addr) (a2 a3 : Option Addr) (c1 c2 c3 nk : Nat) (w : World) (ht : text.size ≤ 1048576) (ht2 : t.size ≤ 1048576) (ha : a.block < w.heap.size) (hc : w.cell? (a.add 0) = some (.string t)) :
    Calls Try.prog 17 #[.agg #[.int .i64 11, .int .i64 num, .int .i64 mat, .string text, .slice (some a) 1 c1, .slice a2 keys.length c2, .slice a3 nk c3]] w fun e w' => e = .returned (.bool ((num == 0) && ((mat == 0) && (decide ((text.size : Int) ≤ 1000) && (Fn.nameOk t && ((keys.length : Int) == 0)))))) ∧ Below w.heap.size w w' := by
  have hbA : Below w.heap.size w (w.alloc (.cells #[.int .i64 11, .int .i64 num, .int .i64 mat, .string text, .slice (some a) 1 c1, .slice a2 keys.length c2, .slice a3 nk c3] 34)) := (Below.refl _ _).alloc (Nat.le_refl _) _
  have hcA := (hbA.cell (p := a.add 0) (by rw [add_blockN]; exact ha)).trans hc
  have hC := mkH (specName t (w.alloc (.cells #[.int .i64 11, .int .i64 num, .int .i64 mat, .string text, .slice (some a) 1 c1, .slice a2 keys.length c2, .slice a3 nk c3] 34)) ht2)
  have e0 : a.add 0 = a := by simp [Addr.add]
  rw [e0] at hcA
  clear hc ha hbA e0
  generalize Fn.nameOk t = A at *
  go_enter Try.func17, Try.ntmps17
  go_wp2_with fail
  refine hC.out.mono ?_
  rintro e w2 ⟨rfl, rfl⟩
  clear hC
  go_wp2
  all_goals
    go_ret
    refine ⟨?_, (Below.refl _ _).alloc (Nat.le_refl _) _⟩
    show Ending.returned (Value.bool _) = Ending.returned (Value.bool _)
    congr 2 <;> simp_all
  all_goals first | done | omega | (intros; omega) | (intros; simp_all; done) | (intros; simp_all; omega)
set_option maxHeartbeats 2000000 in
set_option maxRecDepth 20000 in
theorem specFno (kind num mat : Int) (text : ByteArray) (names keys : List ByteArray) (a1 a2 a3 : Option Addr) (c1 c2 c3 nk : Nat) (w : World)
    (x3 : (kind == 3) = false) (x7 : (kind == 7) = false) (x8 : (kind == 8) = false) (x9 : (kind == 9) = false) (x10 : (kind == 10) = false) (x11 : (kind == 11) = false) (x28 : (kind == 28) = false) (x29 : (kind == 29) = false) (x30 : (kind == 30) = false) (x25 : (kind == 25) = false) (x26 : (kind == 26) = false) (x27 : (kind == 27) = false) (x31 : (kind == 31) = false) (x1 : (kind == 1) = false) (x2 : (kind == 2) = false) (x4 : (kind == 4) = false) (x5 : (kind == 5) = false) (x6 : (kind == 6) = false) (x20 : (kind == 20) = false) (x21 : (kind == 21) = false) (x22 : (kind == 22) = false) (x23 : (kind == 23) = false) (x24 : (kind == 24) = false) :
    Calls Try.prog 17 #[.agg #[.int .i64 kind, .int .i64 num, .int .i64 mat, .string text, .slice a1 names.length c1, .slice a2 keys.length c2, .slice a3 nk c3]] w fun e w' => e = .returned (.bool false) ∧ Below w.heap.size w w' := by
  go_enter Try.func17, Try.ntmps17
  go_wp2
  go_ret
  exact ⟨rfl, (Below.refl _ _).alloc (Nat.le_refl _) _⟩
theorem all5_eq (a b c d e : Bool) : (a && (b && (c && (d && e)))) = Fn.all5 a b c d e := rfl
/-- The fields of a node. -/
theorem specFields (n : Nd) (vn vk vd : Value) (w : World) (hI : NdIn w.heap.size w n vn vk vd) (hf : n.fits 1048576) :
    Calls Try.prog 17 #[ndV n vn vk vd] w fun e w' => e = .returned (.bool (Fn.fieldsOk n)) ∧ Below w.heap.size w w' := by
  obtain ⟨⟨a1, c1, rfl, t1⟩, ⟨a2, c2, rfl, t2⟩, ⟨a3, c3, rfl, t3⟩⟩ := hI
  obtain ⟨f1, f2, f3, f4, f5, f6⟩ := hf
  obtain ⟨kind, num, mat, text, names, keys, kids⟩ := n
  simp only at *
  unfold ndV
  simp only
  by_cases x3 : kind = 3
  · subst x3
    exact specF3 num mat text names keys a1 a2 a3 c1 c2 c3 kids.length w
  by_cases x7 : kind = 7
  · subst x7
    exact specF7 num mat text names keys a1 a2 a3 c1 c2 c3 kids.length w f1
  by_cases x8 : kind = 8
  · subst x8
    exact specF8 num mat text names keys a1 a2 a3 c1 c2 c3 kids.length w f1
  by_cases x9 : kind = 9
  · subst x9
    exact specF9 num mat text names keys a1 a2 a3 c1 c2 c3 kids.length w f1
  by_cases x10 : kind = 10
  · subst x10
    exact specF10 num mat text names keys a1 a2 a3 c1 c2 c3 kids.length w f1
  by_cases x11 : kind = 11
  · subst x11
    rcases names with _ | ⟨t, _ | ⟨t2, r⟩⟩
    · exact specF11no num mat text [] keys a1 a2 a3 c1 c2 c3 kids.length w f1 rfl
    · obtain ⟨a, rfl, ha, hc⟩ := t1 0 (by simp)
      exact specF11yes num mat text t keys a a2 a3 c1 c2 c3 kids.length w f1 (f3 t (by simp)) ha hc
    · exact specF11no num mat text (t :: t2 :: r) keys a1 a2 a3 c1 c2 c3 kids.length w f1 (by simp; omega)
  by_cases x28 : kind = 28
  · subst x28
    exact specF28 num mat text names keys a1 a2 a3 c1 c2 c3 kids.length w t1 f2 f3
  by_cases x29 : kind = 29
  · subst x29
    exact specF29 num mat text names keys a1 a2 a3 c1 c2 c3 kids.length w
  by_cases x30 : kind = 30
  · subst x30
    exact specF30 num mat text names keys a1 a2 a3 c1 c2 c3 kids.length w
  by_cases x25 : kind = 25
  · subst x25
    exact specF25 num mat text names keys a1 a2 a3 c1 c2 c3 kids.length w t1 f2 f3 t2 f4 f5
  by_cases x26 : kind = 26
  · subst x26
    exact specF26 num mat text names keys a1 a2 a3 c1 c2 c3 kids.length w t1 f2 f3 t2 f4 f5
  by_cases x27 : kind = 27
  · subst x27
    exact specF27 num mat text names keys a1 a2 a3 c1 c2 c3 kids.length w t1 f2 f3 t2 f4 f5
  by_cases x31 : kind = 31
  · subst x31
    exact specF31 num mat text names keys a1 a2 a3 c1 c2 c3 kids.length w t1 f2 f3 t2 f4 f5
  by_cases x1 : kind = 1
  · subst x1
    exact specF1 num mat text names keys a1 a2 a3 c1 c2 c3 kids.length w
  by_cases x2 : kind = 2
  · subst x2
    exact specF2 num mat text names keys a1 a2 a3 c1 c2 c3 kids.length w
  by_cases x4 : kind = 4
  · subst x4
    exact specF4 num mat text names keys a1 a2 a3 c1 c2 c3 kids.length w
  by_cases x5 : kind = 5
  · subst x5
    exact specF5 num mat text names keys a1 a2 a3 c1 c2 c3 kids.length w
  by_cases x6 : kind = 6
  · subst x6
    exact specF6 num mat text names keys a1 a2 a3 c1 c2 c3 kids.length w
  by_cases x20 : kind = 20
  · subst x20
    exact specF20 num mat text names keys a1 a2 a3 c1 c2 c3 kids.length w
  by_cases x21 : kind = 21
  · subst x21
    exact specF21 num mat text names keys a1 a2 a3 c1 c2 c3 kids.length w
  by_cases x22 : kind = 22
  · subst x22
    exact specF22 num mat text names keys a1 a2 a3 c1 c2 c3 kids.length w
  by_cases x23 : kind = 23
  · subst x23
    exact specF23 num mat text names keys a1 a2 a3 c1 c2 c3 kids.length w
  by_cases x24 : kind = 24
  · subst x24
    exact specF24 num mat text names keys a1 a2 a3 c1 c2 c3 kids.length w
  have e : Fn.fieldsOk ⟨kind, num, mat, text, names, keys, kids⟩ = false := by
    unfold Fn.fieldsOk
    simp [x3, x7, x8, x9, x10, x11, x28, x29, x30, x25, x26, x27, x31, x1, x2, x4, x5, x6, x20, x21, x22, x23, x24]
  rw [e]
  exact specFno kind num mat text names keys a1 a2 a3 c1 c2 c3 kids.length w (by simpa using x3) (by simpa using x7) (by simpa using x8) (by simpa using x9) (by simpa using x10) (by simpa using x11) (by simpa using x28) (by simpa using x29) (by simpa using x30) (by simpa using x25) (by simpa using x26) (by simpa using x27) (by simpa using x31) (by simpa using x1) (by simpa using x2) (by simpa using x4) (by simpa using x5) (by simpa using x6) (by simpa using x20) (by simpa using x21) (by simpa using x22) (by simpa using x23) (by simpa using x24)
end Go.Proofs.Ytmpakfpmcohcgaa
