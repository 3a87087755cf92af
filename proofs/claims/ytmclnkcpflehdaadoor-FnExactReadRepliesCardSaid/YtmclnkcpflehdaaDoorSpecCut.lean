
/- The specification's cut of a text at a byte, and its number. -/
import Derived.Test.YtmclnkcpflehdaaDoorOwnX
namespace Go.Proofs.YtmclnkcpflehdaaDoor
open Go.RowKit Go.Lib Go.Maps
namespace Cu
def cut (d : UInt8) : List UInt8 → List UInt8 → List (List UInt8)
  | acc, [] => [acc]
  | acc, c :: r => if c = d then acc :: cut d [] r else cut d (acc ++ [c]) r
def mk (l : List UInt8) : ByteArray := ⟨l.toArray⟩
theorem cut_len (d : UInt8) : ∀ (l acc : List UInt8), (cut d acc l).length ≤ l.length + 1
  | [], _ => by simp [cut]
  | c :: r, acc => by
    rw [cut]
    split
    · have := cut_len d r []
      simp only [List.length_cons]
      omega
    · have := cut_len d r (acc ++ [c])
      simp only [List.length_cons]
      omega
theorem cut_ne (d : UInt8) : ∀ (l acc : List UInt8), cut d acc l ≠ []
  | [], _ => by simp [cut]
  | c :: r, acc => by
    rw [cut]
    split
    · simp
    · exact cut_ne d r _
theorem cut_mem (d : UInt8) : ∀ (l acc p : List UInt8), p ∈ cut d acc l → p.length ≤ acc.length + l.length
  | [], acc, p, h => by
    rw [cut, List.mem_singleton] at h
    rw [h]
    simp
  | c :: r, acc, p, h => by
    rw [cut] at h
    split at h
    · rcases List.mem_cons.1 h with h | h
      · rw [h]; simp
      · have := cut_mem d r [] p h
        simp only [List.length_cons, List.length_nil] at this ⊢
        omega
    · have := cut_mem d r _ p h
      simp only [List.length_cons, List.length_append, List.length_nil] at this ⊢
      omega
theorem ex_mk (s : ByteArray) (a b : Nat) : s.extract a b = mk ((s.data.toList.drop a).take (b - a)) := by
  unfold mk
  apply ByteArray.ext
  apply Array.toList_inj.1
  rw [ByteArray.data_extract, Array.toList_extract, List.extract_eq_take_drop]
def digit (c : UInt8) : Bool := decide (48 ≤ c.toNat) && decide (c.toNat ≤ 57)
def val : Nat → List UInt8 → Nat
  | n, [] => n
  | n, c :: r => val (n * 10 + (c.toNat - 48)) r
def numI (l : List UInt8) : Int := if l.all digit then (val 0 l : Nat) else -1
def num10 (l : List UInt8) : Int := if l.length = 0 ∨ 10 < l.length then -1 else numI l
theorem val_lt : ∀ (l : List UInt8) (n : Nat), l.all digit = true → val n l < (n + 1) * 10 ^ l.length
  | [], n, _ => by
    show n < (n + 1) * 10 ^ 0
    omega
  | c :: r, n, h => by
    rw [List.all_cons, Bool.and_eq_true] at h
    obtain ⟨h1, h2⟩ := h
    unfold digit at h1
    simp only [Bool.and_eq_true, decide_eq_true_eq] at h1
    have := val_lt r (n * 10 + (c.toNat - 48)) h2
    show val (n * 10 + (c.toNat - 48)) r < (n + 1) * 10 ^ (r.length + 1)
    rw [Nat.pow_succ]
    refine Nat.lt_of_lt_of_le this ?_
    rw [Nat.mul_comm (10 ^ r.length) 10, ← Nat.mul_assoc]
    exact Nat.mul_le_mul_right _ (by omega)
end Cu
end Go.Proofs.YtmclnkcpflehdaaDoor
