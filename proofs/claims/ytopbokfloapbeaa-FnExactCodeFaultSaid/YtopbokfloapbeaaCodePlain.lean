
/- What an instruction may be: plain. -/
import Derived.Test.YtopbokfloapbeaaCodes2
import Derived.Test.YtopbokfloapbeaaNodeRightAll
namespace Go.Proofs.Ytopbokfloapbeaa
open Go.RowKit Go.Lib Go.Maps
namespace Co
def kid0 (n : Nd) : Bool := (n.kids.length : Int) == 0
def zero (n : Nd) : Bool := (n.kind == 0) && ((n.mat == 0) && (n.text.toList.isEmpty && (((n.names.length : Int) == 0) && (((n.keys.length : Int) == 0) && ((n.kids.length : Int) == 0)))))
def leafC (k : Int) : Bool := (k == 4) || ((k == 5) || (decide (7 ≤ k) && decide (k ≤ 11)))
def leafT (k : Int) : Bool := decide (25 ≤ k) && decide (k ≤ 31)
def place (c : Cd) (N : Nat) : Bool := if c.op = 2 ∨ c.op = 3 ∨ c.op = 4 ∨ c.op = 9 then decide (0 ≤ c.to) && decide (c.to < (N : Int)) else c.to == 0
/-- What the specification asks of the node. -/
def node (c : Cd) : Bool :=
  if c.op = 1 ∨ c.op = 10 ∨ c.op = 2 ∨ c.op = 3 ∨ c.op = 4 ∨ c.op = 9 then zero c.nd && (c.nd.num == 0) else
  if c.op = 5 then zero c.nd && ((c.nd.num == 0) || (c.nd.num == 1)) else
  if c.op = 8 then (zero c.nd && decide (0 ≤ c.nd.num)) && decide (c.nd.num ≤ 100) else
  if c.op = 6 then (leafC c.nd.kind && Fn.fieldsOk c.nd) && kid0 c.nd else
  if c.op = 7 then (leafT c.nd.kind && Fn.fieldsOk c.nd) && kid0 c.nd else false
def right (c : Cd) (N : Nat) : Bool := place c N && node c
def number (n : Nd) (most : Int) : Bool := (n.kind == 0) && (Fn.right { n with num := 0 } && (decide (0 ≤ n.num) && decide (n.num ≤ most)))
/-- What the program asks of it. -/
def has (c : Cd) : Bool :=
  if c.op = 1 ∨ c.op = 10 ∨ c.op = 2 ∨ c.op = 3 ∨ c.op = 4 ∨ c.op = 9 then number c.nd 0 else
  if c.op = 5 then number c.nd 1 else
  if c.op = 8 then number c.nd 100 else
  if c.op = 6 then leafC c.nd.kind && Fn.right c.nd else
  if c.op = 7 then leafT c.nd.kind && Fn.right c.nd else false
theorem number_zero (n : Nd) (most : Int) : (kid0 n && number n most) = (zero n && (decide (0 ≤ n.num) && decide (n.num ≤ most))) := by
  unfold number zero kid0
  by_cases hk : n.kind = 0
  · have hb : (n.kind == 0) = true := by simpa using hk
    have hr : Fn.right { n with num := 0 } = Fn.bare { n with num := 0 } := by
      unfold Fn.right
      rw [if_neg]
      rw [Fn.known_iff]
      dsimp only
      omega
    rw [hb, hr]
    unfold Fn.bare Fn.all5 Fn.u0 Fn.m0 Fn.t0 Fn.n0 Fn.k0
    dsimp only
    generalize (n.mat == 0) = a1
    generalize n.text.toList.isEmpty = a2
    generalize ((n.names.length : Int) == 0) = a3
    generalize ((n.keys.length : Int) == 0) = a4
    generalize ((n.kids.length : Int) == 0) = a5
    generalize decide (0 ≤ n.num) = a6
    generalize decide (n.num ≤ most) = a7
    cases a1 <;> cases a2 <;> cases a3 <;> cases a4 <;> cases a5 <;> rfl
  · have hb : (n.kind == 0) = false := by simpa using hk
    rw [hb, Bool.false_and, Bool.false_and, Bool.and_false, Bool.false_and]
theorem one_of (x : Int) : (decide (0 ≤ x) && decide (x ≤ 1)) = ((x == 0) || (x == 1)) := by
  rw [Bool.eq_iff_iff]
  simp
  omega
theorem node_has (c : Cd) : (kid0 c.nd && has c) = node c := by
  unfold has node
  split
  · rw [number_zero, Fn.p0]
  · split
    · rw [number_zero, one_of]
    · split
      · rw [number_zero, Bool.and_assoc]
      · split
        · by_cases hl : leafC c.nd.kind = true
          · have hk : Fn.right c.nd = Fn.fieldsOk c.nd := by
              unfold Fn.right
              rw [if_pos]
              rw [Fn.known_iff]
              unfold leafC at hl
              simp at hl
              omega
            rw [hl, hk, Bool.true_and, Bool.and_comm]
          · have hl' : leafC c.nd.kind = false := by simpa using hl
            rw [hl', Bool.false_and, Bool.false_and, Bool.false_and, Bool.and_false]
        · split
          · by_cases hl : leafT c.nd.kind = true
            · have hk : Fn.right c.nd = Fn.fieldsOk c.nd := by
                unfold Fn.right
                rw [if_pos]
                rw [Fn.known_iff]
                unfold leafT at hl
                simp at hl
                omega
              rw [hl, hk, Bool.true_and, Bool.and_comm]
            · have hl' : leafT c.nd.kind = false := by simpa using hl
              rw [hl', Bool.false_and, Bool.false_and, Bool.false_and, Bool.and_false]
          · rw [Bool.and_false]
def lastOk (F : List Cd) : Bool := match F.getLast? with | some c => (c.op == 10) || (c.op == 2) | none => false
def good (F : List Cd) : Bool := decide (1 ≤ F.length) && (decide (F.length ≤ 20000) && (lastOk F && F.all fun c => right c F.length))
def code (b : Bool) : Int := if b then 0 else 1
theorem last_at (F : List Cd) (m : Nat) (h : F.length = m + 1) (hm : m < F.length) : lastOk F = ((F[m].op == 10) || (F[m].op == 2)) := by
  unfold lastOk
  rw [List.getLast?_eq_getElem?, h, Nat.add_sub_cancel, List.getElem?_eq_getElem hm]
theorem all_drop (F : List Cd) (N k : Nat) (h : k < F.length) : ((F.drop k).all fun c => right c N) = (right F[k] N && (F.drop (k + 1)).all fun c => right c N) := by
  rw [List.drop_eq_getElem_cons h, List.all_cons]
end Co
end Go.Proofs.Ytopbokfloapbeaa
