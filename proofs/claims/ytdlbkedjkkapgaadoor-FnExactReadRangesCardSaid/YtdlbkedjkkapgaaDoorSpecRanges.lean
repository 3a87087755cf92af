
/- The specification's ranges: tested, written. -/
import Derived.Test.YtdlbkedjkkapgaaDoorGenRange
import Derived.Test.YtdlbkedjkkapgaaDoorDec
namespace Go.Proofs.YtdlbkedjkkapgaaDoor
open Go.RowKit Go.Lib Go.Maps
namespace Rg
def rOk (r : GRange) : Bool := decide (1 ≤ r.fromF) && (decide (r.fromF ≤ r.toF) && decide (r.toF ≤ 4294967295))
def rsOk (F : List GRange) : Bool := decide (1 ≤ F.length) && (decide (F.length ≤ 100) && F.all rOk)
def num (z : Int) : List UInt8 := if z = 4294967295 then [42] else decDigits z.toNat
def one (r : GRange) : List UInt8 := num r.fromF ++ (if r.fromF < r.toF then 58 :: num r.toF else [])
def more : List GRange → List UInt8
  | [] => []
  | r :: t => 44 :: (one r ++ more t)
def wr : List GRange → List UInt8
  | [] => []
  | r :: t => one r ++ more t
theorem all_dropR {α : Type} (f : α → Bool) (l : List α) (k : Nat) (h : k < l.length) : (l.drop k).all f = (f l[k] && (l.drop (k + 1)).all f) := by
  rw [List.drop_eq_getElem_cons h, List.all_cons]
theorem more_step (l : List GRange) (k : Nat) (h : k < l.length) : more (l.drop k) = 44 :: (one l[k] ++ more (l.drop (k + 1))) := by
  rw [List.drop_eq_getElem_cons h, more]
theorem wr_step (l : List GRange) (h : 0 < l.length) : wr l = one l[0] ++ more (l.drop 1) := by
  cases l with
  | nil => cases h
  | cons r t => rfl
theorem dec_small (n : Nat) (h : n ≤ 9999999999) : (decDigits n).length ≤ 10 := by
  have step : ∀ (m k : Nat), m < 10 ^ (k + 1) → (decDigits m).length ≤ k + 1 := by
    intro m k
    induction k generalizing m with
    | zero =>
      intro hm
      rw [decDigits, dif_pos (by simpa using hm)]
      simp
    | succ k ih =>
      intro hm
      rw [decDigits]
      by_cases h10 : m < 10
      · rw [dif_pos h10]; simp
      · rw [dif_neg h10, List.length_append]
        have := ih (m / 10) (by rw [Nat.pow_succ] at hm; omega)
        simp only [List.length_cons, List.length_nil]
        omega
  exact step n 9 (by omega)
theorem num_small (z : Int) (h0 : 0 ≤ z) (h1 : z ≤ 4294967295) : (num z).length ≤ 10 := by
  unfold num
  split
  · simp
  · exact dec_small _ (by omega)
theorem one_small (r : GRange) (h : rOk r = true) : (one r).length ≤ 21 := by
  unfold rOk at h
  simp only [Bool.and_eq_true, decide_eq_true_eq] at h
  have a := num_small r.fromF (by omega) (by omega)
  have b := num_small r.toF (by omega) (by omega)
  unfold one
  rw [List.length_append]
  split
  · simp; omega
  · simp; omega
end Rg
def plWriteRanges (F : List GRange) : ByteArray := ⟨(if Rg.rsOk F then Rg.wr F else []).toArray⟩
theorem cell_ltR {w : World} {p : Addr} {v : Value} (h : w.cell? p = some v) : p.block < w.heap.size := by
  by_cases hb : p.block < w.heap.size
  · exact hb
  · have e : w.heap[p.block]? = none := Array.getElem?_eq_none (by omega)
    simp [World.cell?, e] at h
end Go.Proofs.YtdlbkedjkkapgaaDoor
