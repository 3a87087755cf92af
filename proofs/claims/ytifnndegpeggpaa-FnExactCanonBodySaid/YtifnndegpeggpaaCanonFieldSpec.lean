
/- CanonField, the specification's side. -/
import Derived.Test.YtifnndegpeggpaaTrimSpec
import Derived.Test.YtifnndegpeggpaaRunsSpec
import Derived.Test.YtifnndegpeggpaaLow
import Derived.Test.YtifnndegpeggpaaWriteHead
import Derived.Test.YtifnndegpeggpaaUnfold
import Derived.Lib.QuietBelow
import Derived.Deep.QuietTactic
import Derived.BigQuiet
namespace Go.Proofs.Ytifnndegpeggpaa
open Go.RowKit Go.Lib
def relaxV (v : ByteArray) : List UInt8 := Pl.trimB (Pl.runs (Pl.unf false v.data.toList))
def canonF (n v : ByteArray) (x : Int) : ByteArray :=
  if Pl.hd [] [(n, v)] = [] then ⟨#[]⟩
  else if x = 0 then n ++ ⟨#[58]⟩ ++ v ++ ⟨#[13, 10]⟩
  else if x = 1 then ⟨(lower n.data.toList).toArray⟩ ++ ⟨#[58]⟩ ++ ⟨(relaxV v).toArray⟩ ++ ⟨#[13, 10]⟩
  else ⟨#[]⟩
namespace Pl
theorem rn_len : ∀ (l : List UInt8) (b : Bool), (rn b l).length ≤ l.length
  | [], b => by simp [rn]
  | c :: r, b => by
    have h1 := rn_len r true
    have h2 := rn_len r false
    rw [rn]
    split
    · split
      · simp; omega
      · simp; omega
    · simp; omega
theorem runs_len (l : List UInt8) : (runs l).length ≤ l.length := by
  have := rn_len l false
  unfold runs bareEnd
  split
  · rw [List.length_dropLast]; omega
  · exact this
theorem dropW_len : ∀ (l : List UInt8), (l.dropWhile blank).length ≤ l.length
  | [] => by simp
  | c :: r => by
    rw [List.dropWhile_cons]
    split
    · have := dropW_len r; simp; omega
    · simp
theorem trimB_len (l : List UInt8) : (trimB l).length ≤ l.length := by
  unfold trimB endB
  rw [List.length_reverse]
  have h1 := dropW_len (l.dropWhile blank).reverse
  have h2 := dropW_len l
  rw [List.length_reverse] at h1
  omega
end Pl
theorem hd_one (n v : ByteArray) (h : ¬ Pl.hd [] [(n, v)] = []) : n.size ≤ 100000 ∧ v.size ≤ 100000 := by
  rw [Pl.hd] at h
  split at h
  · split at h
    · exact absurd rfl h
    · rename_i hl
      rw [List.nil_append, Pl.line_len] at hl
      exact ⟨by show n.size ≤ _; simp at hl; omega, by show v.size ≤ _; simp at hl; omega⟩
  · exact absurd rfl h
end Go.Proofs.Ytifnndegpeggpaa
