/- Plain mathematics of the marks: the digits of a number. -/
import Derived.Test.YtpnebokcddgahaiPlain
namespace Go.Proofs.Ytpnebokcddgahai
namespace Pl

def dg : Nat → Nat → List UInt8 → List UInt8
  | 0, _, out => out
  | f + 1, n, out => if n = 0 then out else dg f (n / 10) (UInt8.ofNat (48 + n % 10) :: out)

/-- What marks place n. -/
def mark (n : Nat) : List UInt8 := 109 :: dg n n []

theorem dg_zero (f : Nat) (out : List UInt8) : dg f 0 out = out := by
  cases f <;> simp [dg]
theorem dg_step (f n : Nat) (out : List UInt8) (h : 0 < n) (hf : n ≤ f) : dg f n out = dg (f - 1) (n / 10) (UInt8.ofNat (48 + n % 10) :: out) := by
  obtain ⟨g, rfl⟩ : ∃ g, f = g + 1 := ⟨f - 1, by omega⟩
  rw [dg, if_neg (by omega)]
  rfl
theorem cat_mk (a b : List UInt8) : (⟨a.toArray⟩ : ByteArray) ++ ⟨b.toArray⟩ = ⟨(a ++ b).toArray⟩ := by
  apply ByteArray.ext
  simp
end Pl
end Go.Proofs.Ytpnebokcddgahai
namespace Go.Proofs.Ytpnebokcddgahai
namespace Pl
/-- The first i marks. -/
def marks (i : Nat) : List (List UInt8) := (List.range i).map fun j => mark (j + 1)
theorem marks_len (i : Nat) : (marks i).length = i := by simp [marks]
theorem marks_get (i j : Nat) (h : j < (marks i).length) : (marks i)[j] = mark (j + 1) := by simp [marks]
theorem marks_set (ls : List (List UInt8)) (i : Nat) (h : i < ls.length) : (marks i ++ ls.drop i).set i (mark (i + 1)) = marks (i + 1) ++ ls.drop (i + 1) := by
  rw [List.drop_eq_getElem_cons h]
  have e : marks (i + 1) = marks i ++ [mark (i + 1)] := by simp [marks, List.range_succ]
  rw [e, List.set_append, if_neg (by rw [marks_len]; omega), marks_len, Nat.sub_self, List.set_cons_zero, List.append_assoc]
  rfl
end Pl
end Go.Proofs.Ytpnebokcddgahai
