
/- What a node's fields may be, on the specification's side. -/
import Derived.Test.YtmpakfpmcohcgaaNodeOk
namespace Go.Proofs.Ytmpakfpmcohcgaa
open Go.RowKit Go.Lib Go.Maps
namespace Fn
def u0 (n : Nd) : Bool := n.num == 0
def m0 (n : Nd) : Bool := n.mat == 0
def t0 (n : Nd) : Bool := n.text.toList.isEmpty
def n0 (n : Nd) : Bool := (n.names.length : Int) == 0
def k0 (n : Nd) : Bool := (n.keys.length : Int) == 0
def upTo (x m : Int) : Bool := decide (0 ≤ x) && decide (x ≤ m)
def tx (n : Nd) : Bool := decide ((n.text.size : Int) ≤ 1000)
def one (n : Nd) : Bool := match n.names with | [t] => nameOk t | _ => false
def all5 (a b c d e : Bool) : Bool := a && (b && (c && (d && e)))
/-- The fields but its kids, as a node's kind asks. -/
def fieldsOk (n : Nd) : Bool :=
  if n.kind = 3 then all5 (upTo n.num 100) (m0 n) (t0 n) (n0 n) (k0 n) else
  if n.kind = 7 ∨ n.kind = 8 ∨ n.kind = 9 ∨ n.kind = 10 then all5 (u0 n) (m0 n) (tx n) (n0 n) (k0 n) else
  if n.kind = 11 then all5 (u0 n) (m0 n) (tx n) (one n) (k0 n) else
  if n.kind = 28 then all5 (u0 n) (m0 n) (t0 n) (textsOk n.names) (k0 n) else
  if n.kind = 29 ∨ n.kind = 30 then all5 (upTo n.num 999999999) (m0 n) (t0 n) (n0 n) (k0 n) else
  if n.kind = 25 ∨ n.kind = 26 ∨ n.kind = 27 ∨ n.kind = 31 then all5 (u0 n) (upTo n.mat 2) (t0 n) (textsOk n.names) (textsOk n.keys) else
  if n.kind = 1 ∨ n.kind = 2 ∨ n.kind = 4 ∨ n.kind = 5 ∨ n.kind = 6 ∨ n.kind = 20 ∨ n.kind = 21 ∨ n.kind = 22 ∨ n.kind = 23 ∨ n.kind = 24 then all5 (u0 n) (m0 n) (t0 n) (n0 n) (k0 n) else false
end Fn
set_option maxHeartbeats 2000000 in
set_option maxRecDepth 20000 in
theorem specF3 (num mat : Int) (text : ByteArray) (names keys : List ByteArray) (a1 a2 a3 : Option Addr) (c1 c2 c3 nk : Nat) (w : World) :
    Calls Try.prog 17 #[.agg #[.int .i64 3, .int .i64 num, .int .i64 mat, .string text, .slice a1 names.length c1, .slice a2 keys.length c2, .slice a3 nk c3]] w fun e w' => e = .returned (.bool ((decide (0 ≤ num) && decide (num ≤ 100)) && ((mat == 0) && (text.toList.isEmpty && (((names.length : Int) == 0) && ((keys.length : Int) == 0)))))) ∧ Below w.heap.size w w' := by
  go_enter Try.func17, Try.ntmps17
  go_wp2
  all_goals
    go_ret
    refine ⟨?_, (Below.refl _ _).alloc (Nat.le_refl _) _⟩
    show Ending.returned (Value.bool _) = Ending.returned (Value.bool _)
    congr 2
    simp_all
  all_goals first | done | omega | (intros; omega) | (intros; simp_all; done) | (intros; simp_all; omega)
set_option maxHeartbeats 2000000 in
set_option maxRecDepth 20000 in
theorem specF7 (num mat : Int) (text : ByteArray) (names keys : List ByteArray) (a1 a2 a3 : Option Addr) (c1 c2 c3 nk : Nat) (w : World) (ht : text.size ≤ 1048576) :
    Calls Try.prog 17 #[.agg #[.int .i64 7, .int .i64 num, .int .i64 mat, .string text, .slice a1 names.length c1, .slice a2 keys.length c2, .slice a3 nk c3]] w fun e w' => e = .returned (.bool ((num == 0) && ((mat == 0) && (decide ((text.size : Int) ≤ 1000) && (((names.length : Int) == 0) && ((keys.length : Int) == 0)))))) ∧ Below w.heap.size w w' := by
  go_enter Try.func17, Try.ntmps17
  go_wp2
  all_goals
    go_ret
    refine ⟨?_, (Below.refl _ _).alloc (Nat.le_refl _) _⟩
    show Ending.returned (Value.bool _) = Ending.returned (Value.bool _)
    congr 2
    simp_all
  all_goals first | done | omega | (intros; omega) | (intros; simp_all; done) | (intros; simp_all; omega)
set_option maxHeartbeats 2000000 in
set_option maxRecDepth 20000 in
theorem specF8 (num mat : Int) (text : ByteArray) (names keys : List ByteArray) (a1 a2 a3 : Option Addr) (c1 c2 c3 nk : Nat) (w : World) (ht : text.size ≤ 1048576) :
    Calls Try.prog 17 #[.agg #[.int .i64 8, .int .i64 num, .int .i64 mat, .string text, .slice a1 names.length c1, .slice a2 keys.length c2, .slice a3 nk c3]] w fun e w' => e = .returned (.bool ((num == 0) && ((mat == 0) && (decide ((text.size : Int) ≤ 1000) && (((names.length : Int) == 0) && ((keys.length : Int) == 0)))))) ∧ Below w.heap.size w w' := by
  go_enter Try.func17, Try.ntmps17
  go_wp2
  all_goals
    go_ret
    refine ⟨?_, (Below.refl _ _).alloc (Nat.le_refl _) _⟩
    show Ending.returned (Value.bool _) = Ending.returned (Value.bool _)
    congr 2
    simp_all
  all_goals first | done | omega | (intros; omega) | (intros; simp_all; done) | (intros; simp_all; omega)
set_option maxHeartbeats 2000000 in
set_option maxRecDepth 20000 in
theorem specF9 (num mat : Int) (text : ByteArray) (names keys : List ByteArray) (a1 a2 a3 : Option Addr) (c1 c2 c3 nk : Nat) (w : World) (ht : text.size ≤ 1048576) :
    Calls Try.prog 17 #[.agg #[.int .i64 9, .int .i64 num, .int .i64 mat, .string text, .slice a1 names.length c1, .slice a2 keys.length c2, .slice a3 nk c3]] w fun e w' => e = .returned (.bool ((num == 0) && ((mat == 0) && (decide ((text.size : Int) ≤ 1000) && (((names.length : Int) == 0) && ((keys.length : Int) == 0)))))) ∧ Below w.heap.size w w' := by
  go_enter Try.func17, Try.ntmps17
  go_wp2
  all_goals
    go_ret
    refine ⟨?_, (Below.refl _ _).alloc (Nat.le_refl _) _⟩
    show Ending.returned (Value.bool _) = Ending.returned (Value.bool _)
    congr 2
    simp_all
  all_goals first | done | omega | (intros; omega) | (intros; simp_all; done) | (intros; simp_all; omega)
set_option maxHeartbeats 2000000 in
set_option maxRecDepth 20000 in
theorem specF10 (num mat : Int) (text : ByteArray) (names keys : List ByteArray) (a1 a2 a3 : Option Addr) (c1 c2 c3 nk : Nat) (w : World) (ht : text.size ≤ 1048576) :
    Calls Try.prog 17 #[.agg #[.int .i64 10, .int .i64 num, .int .i64 mat, .string text, .slice a1 names.length c1, .slice a2 keys.length c2, .slice a3 nk c3]] w fun e w' => e = .returned (.bool ((num == 0) && ((mat == 0) && (decide ((text.size : Int) ≤ 1000) && (((names.length : Int) == 0) && ((keys.length : Int) == 0)))))) ∧ Below w.heap.size w w' := by
  go_enter Try.func17, Try.ntmps17
  go_wp2
  all_goals
    go_ret
    refine ⟨?_, (Below.refl _ _).alloc (Nat.le_refl _) _⟩
    show Ending.returned (Value.bool _) = Ending.returned (Value.bool _)
    congr 2
    simp_all
  all_goals first | done | omega | (intros; omega) | (intros; simp_all; done) | (intros; simp_all; omega)
set_option maxHeartbeats 2000000 in
set_option maxRecDepth 20000 in
theorem specF29 (num mat : Int) (text : ByteArray) (names keys : List ByteArray) (a1 a2 a3 : Option Addr) (c1 c2 c3 nk : Nat) (w : World) :
    Calls Try.prog 17 #[.agg #[.int .i64 29, .int .i64 num, .int .i64 mat, .string text, .slice a1 names.length c1, .slice a2 keys.length c2, .slice a3 nk c3]] w fun e w' => e = .returned (.bool ((decide (0 ≤ num) && decide (num ≤ 999999999)) && ((mat == 0) && (text.toList.isEmpty && (((names.length : Int) == 0) && ((keys.length : Int) == 0)))))) ∧ Below w.heap.size w w' := by
  go_enter Try.func17, Try.ntmps17
  go_wp2
  all_goals
    go_ret
    refine ⟨?_, (Below.refl _ _).alloc (Nat.le_refl _) _⟩
    show Ending.returned (Value.bool _) = Ending.returned (Value.bool _)
    congr 2
    simp_all
  all_goals first | done | omega | (intros; omega) | (intros; simp_all; done) | (intros; simp_all; omega)
set_option maxHeartbeats 2000000 in
set_option maxRecDepth 20000 in
theorem specF30 (num mat : Int) (text : ByteArray) (names keys : List ByteArray) (a1 a2 a3 : Option Addr) (c1 c2 c3 nk : Nat) (w : World) :
    Calls Try.prog 17 #[.agg #[.int .i64 30, .int .i64 num, .int .i64 mat, .string text, .slice a1 names.length c1, .slice a2 keys.length c2, .slice a3 nk c3]] w fun e w' => e = .returned (.bool ((decide (0 ≤ num) && decide (num ≤ 999999999)) && ((mat == 0) && (text.toList.isEmpty && (((names.length : Int) == 0) && ((keys.length : Int) == 0)))))) ∧ Below w.heap.size w w' := by
  go_enter Try.func17, Try.ntmps17
  go_wp2
  all_goals
    go_ret
    refine ⟨?_, (Below.refl _ _).alloc (Nat.le_refl _) _⟩
    show Ending.returned (Value.bool _) = Ending.returned (Value.bool _)
    congr 2
    simp_all
  all_goals first | done | omega | (intros; omega) | (intros; simp_all; done) | (intros; simp_all; omega)
set_option maxHeartbeats 2000000 in
set_option maxRecDepth 20000 in
theorem specF1 (num mat : Int) (text : ByteArray) (names keys : List ByteArray) (a1 a2 a3 : Option Addr) (c1 c2 c3 nk : Nat) (w : World) :
    Calls Try.prog 17 #[.agg #[.int .i64 1, .int .i64 num, .int .i64 mat, .string text, .slice a1 names.length c1, .slice a2 keys.length c2, .slice a3 nk c3]] w fun e w' => e = .returned (.bool ((num == 0) && ((mat == 0) && (text.toList.isEmpty && (((names.length : Int) == 0) && ((keys.length : Int) == 0)))))) ∧ Below w.heap.size w w' := by
  go_enter Try.func17, Try.ntmps17
  go_wp2
  all_goals
    go_ret
    refine ⟨?_, (Below.refl _ _).alloc (Nat.le_refl _) _⟩
    show Ending.returned (Value.bool _) = Ending.returned (Value.bool _)
    congr 2
    simp_all
  all_goals first | done | omega | (intros; omega) | (intros; simp_all; done) | (intros; simp_all; omega)
set_option maxHeartbeats 2000000 in
set_option maxRecDepth 20000 in
theorem specF2 (num mat : Int) (text : ByteArray) (names keys : List ByteArray) (a1 a2 a3 : Option Addr) (c1 c2 c3 nk : Nat) (w : World) :
    Calls Try.prog 17 #[.agg #[.int .i64 2, .int .i64 num, .int .i64 mat, .string text, .slice a1 names.length c1, .slice a2 keys.length c2, .slice a3 nk c3]] w fun e w' => e = .returned (.bool ((num == 0) && ((mat == 0) && (text.toList.isEmpty && (((names.length : Int) == 0) && ((keys.length : Int) == 0)))))) ∧ Below w.heap.size w w' := by
  go_enter Try.func17, Try.ntmps17
  go_wp2
  all_goals
    go_ret
    refine ⟨?_, (Below.refl _ _).alloc (Nat.le_refl _) _⟩
    show Ending.returned (Value.bool _) = Ending.returned (Value.bool _)
    congr 2
    simp_all
  all_goals first | done | omega | (intros; omega) | (intros; simp_all; done) | (intros; simp_all; omega)
set_option maxHeartbeats 2000000 in
set_option maxRecDepth 20000 in
theorem specF4 (num mat : Int) (text : ByteArray) (names keys : List ByteArray) (a1 a2 a3 : Option Addr) (c1 c2 c3 nk : Nat) (w : World) :
    Calls Try.prog 17 #[.agg #[.int .i64 4, .int .i64 num, .int .i64 mat, .string text, .slice a1 names.length c1, .slice a2 keys.length c2, .slice a3 nk c3]] w fun e w' => e = .returned (.bool ((num == 0) && ((mat == 0) && (text.toList.isEmpty && (((names.length : Int) == 0) && ((keys.length : Int) == 0)))))) ∧ Below w.heap.size w w' := by
  go_enter Try.func17, Try.ntmps17
  go_wp2
  all_goals
    go_ret
    refine ⟨?_, (Below.refl _ _).alloc (Nat.le_refl _) _⟩
    show Ending.returned (Value.bool _) = Ending.returned (Value.bool _)
    congr 2
    simp_all
  all_goals first | done | omega | (intros; omega) | (intros; simp_all; done) | (intros; simp_all; omega)
set_option maxHeartbeats 2000000 in
set_option maxRecDepth 20000 in
theorem specF5 (num mat : Int) (text : ByteArray) (names keys : List ByteArray) (a1 a2 a3 : Option Addr) (c1 c2 c3 nk : Nat) (w : World) :
    Calls Try.prog 17 #[.agg #[.int .i64 5, .int .i64 num, .int .i64 mat, .string text, .slice a1 names.length c1, .slice a2 keys.length c2, .slice a3 nk c3]] w fun e w' => e = .returned (.bool ((num == 0) && ((mat == 0) && (text.toList.isEmpty && (((names.length : Int) == 0) && ((keys.length : Int) == 0)))))) ∧ Below w.heap.size w w' := by
  go_enter Try.func17, Try.ntmps17
  go_wp2
  all_goals
    go_ret
    refine ⟨?_, (Below.refl _ _).alloc (Nat.le_refl _) _⟩
    show Ending.returned (Value.bool _) = Ending.returned (Value.bool _)
    congr 2
    simp_all
  all_goals first | done | omega | (intros; omega) | (intros; simp_all; done) | (intros; simp_all; omega)
set_option maxHeartbeats 2000000 in
set_option maxRecDepth 20000 in
theorem specF6 (num mat : Int) (text : ByteArray) (names keys : List ByteArray) (a1 a2 a3 : Option Addr) (c1 c2 c3 nk : Nat) (w : World) :
    Calls Try.prog 17 #[.agg #[.int .i64 6, .int .i64 num, .int .i64 mat, .string text, .slice a1 names.length c1, .slice a2 keys.length c2, .slice a3 nk c3]] w fun e w' => e = .returned (.bool ((num == 0) && ((mat == 0) && (text.toList.isEmpty && (((names.length : Int) == 0) && ((keys.length : Int) == 0)))))) ∧ Below w.heap.size w w' := by
  go_enter Try.func17, Try.ntmps17
  go_wp2
  all_goals
    go_ret
    refine ⟨?_, (Below.refl _ _).alloc (Nat.le_refl _) _⟩
    show Ending.returned (Value.bool _) = Ending.returned (Value.bool _)
    congr 2
    simp_all
  all_goals first | done | omega | (intros; omega) | (intros; simp_all; done) | (intros; simp_all; omega)
set_option maxHeartbeats 2000000 in
set_option maxRecDepth 20000 in
theorem specF20 (num mat : Int) (text : ByteArray) (names keys : List ByteArray) (a1 a2 a3 : Option Addr) (c1 c2 c3 nk : Nat) (w : World) :
    Calls Try.prog 17 #[.agg #[.int .i64 20, .int .i64 num, .int .i64 mat, .string text, .slice a1 names.length c1, .slice a2 keys.length c2, .slice a3 nk c3]] w fun e w' => e = .returned (.bool ((num == 0) && ((mat == 0) && (text.toList.isEmpty && (((names.length : Int) == 0) && ((keys.length : Int) == 0)))))) ∧ Below w.heap.size w w' := by
  go_enter Try.func17, Try.ntmps17
  go_wp2
  all_goals
    go_ret
    refine ⟨?_, (Below.refl _ _).alloc (Nat.le_refl _) _⟩
    show Ending.returned (Value.bool _) = Ending.returned (Value.bool _)
    congr 2
    simp_all
  all_goals first | done | omega | (intros; omega) | (intros; simp_all; done) | (intros; simp_all; omega)
set_option maxHeartbeats 2000000 in
set_option maxRecDepth 20000 in
theorem specF21 (num mat : Int) (text : ByteArray) (names keys : List ByteArray) (a1 a2 a3 : Option Addr) (c1 c2 c3 nk : Nat) (w : World) :
    Calls Try.prog 17 #[.agg #[.int .i64 21, .int .i64 num, .int .i64 mat, .string text, .slice a1 names.length c1, .slice a2 keys.length c2, .slice a3 nk c3]] w fun e w' => e = .returned (.bool ((num == 0) && ((mat == 0) && (text.toList.isEmpty && (((names.length : Int) == 0) && ((keys.length : Int) == 0)))))) ∧ Below w.heap.size w w' := by
  go_enter Try.func17, Try.ntmps17
  go_wp2
  all_goals
    go_ret
    refine ⟨?_, (Below.refl _ _).alloc (Nat.le_refl _) _⟩
    show Ending.returned (Value.bool _) = Ending.returned (Value.bool _)
    congr 2
    simp_all
  all_goals first | done | omega | (intros; omega) | (intros; simp_all; done) | (intros; simp_all; omega)
set_option maxHeartbeats 2000000 in
set_option maxRecDepth 20000 in
theorem specF22 (num mat : Int) (text : ByteArray) (names keys : List ByteArray) (a1 a2 a3 : Option Addr) (c1 c2 c3 nk : Nat) (w : World) :
    Calls Try.prog 17 #[.agg #[.int .i64 22, .int .i64 num, .int .i64 mat, .string text, .slice a1 names.length c1, .slice a2 keys.length c2, .slice a3 nk c3]] w fun e w' => e = .returned (.bool ((num == 0) && ((mat == 0) && (text.toList.isEmpty && (((names.length : Int) == 0) && ((keys.length : Int) == 0)))))) ∧ Below w.heap.size w w' := by
  go_enter Try.func17, Try.ntmps17
  go_wp2
  all_goals
    go_ret
    refine ⟨?_, (Below.refl _ _).alloc (Nat.le_refl _) _⟩
    show Ending.returned (Value.bool _) = Ending.returned (Value.bool _)
    congr 2
    simp_all
  all_goals first | done | omega | (intros; omega) | (intros; simp_all; done) | (intros; simp_all; omega)
set_option maxHeartbeats 2000000 in
set_option maxRecDepth 20000 in
theorem specF23 (num mat : Int) (text : ByteArray) (names keys : List ByteArray) (a1 a2 a3 : Option Addr) (c1 c2 c3 nk : Nat) (w : World) :
    Calls Try.prog 17 #[.agg #[.int .i64 23, .int .i64 num, .int .i64 mat, .string text, .slice a1 names.length c1, .slice a2 keys.length c2, .slice a3 nk c3]] w fun e w' => e = .returned (.bool ((num == 0) && ((mat == 0) && (text.toList.isEmpty && (((names.length : Int) == 0) && ((keys.length : Int) == 0)))))) ∧ Below w.heap.size w w' := by
  go_enter Try.func17, Try.ntmps17
  go_wp2
  all_goals
    go_ret
    refine ⟨?_, (Below.refl _ _).alloc (Nat.le_refl _) _⟩
    show Ending.returned (Value.bool _) = Ending.returned (Value.bool _)
    congr 2
    simp_all
  all_goals first | done | omega | (intros; omega) | (intros; simp_all; done) | (intros; simp_all; omega)
set_option maxHeartbeats 2000000 in
set_option maxRecDepth 20000 in
theorem specF24 (num mat : Int) (text : ByteArray) (names keys : List ByteArray) (a1 a2 a3 : Option Addr) (c1 c2 c3 nk : Nat) (w : World) :
    Calls Try.prog 17 #[.agg #[.int .i64 24, .int .i64 num, .int .i64 mat, .string text, .slice a1 names.length c1, .slice a2 keys.length c2, .slice a3 nk c3]] w fun e w' => e = .returned (.bool ((num == 0) && ((mat == 0) && (text.toList.isEmpty && (((names.length : Int) == 0) && ((keys.length : Int) == 0)))))) ∧ Below w.heap.size w w' := by
  go_enter Try.func17, Try.ntmps17
  go_wp2
  all_goals
    go_ret
    refine ⟨?_, (Below.refl _ _).alloc (Nat.le_refl _) _⟩
    show Ending.returned (Value.bool _) = Ending.returned (Value.bool _)
    congr 2
    simp_all
  all_goals first | done | omega | (intros; omega) | (intros; simp_all; done) | (intros; simp_all; omega)
end Go.Proofs.Ytmpakfpmcohcgaa
