
/- A number in digits, the specification's side. -/
import Derived.Test.YtnfolnngnmiieaaGenBase
import Derived.Lib.ItoaNum
import Derived.Deep.QuietTactic
import Derived.BigQuiet
import Derived.Deep.RegionWith
import Derived.Laws.OwnMore
import Derived.WalkSmall
namespace Go.Proofs.Ytnfolnngnmiieaa
open Go.RowKit Go.Lib
namespace Pl
def by8 (n : Int) : UInt8 := UInt8.ofNat n.toNat
theorem by8_eq (n : Int) (a : UInt8) (h0 : 0 ≤ n) (h1 : n < 256) : by8 n = a ↔ n = (a.toNat : Int) := by
  constructor
  · rintro rfl
    simp [by8, UInt8.toNat_ofNat']
    omega
  · intro h
    apply UInt8.toNat_inj.1
    simp [by8, UInt8.toNat_ofNat']
    omega
end Pl
theorem by8_val (n : Int) (h0 : 0 ≤ n) (h1 : n < 256) : ((Pl.by8 n).toNat : Int) = n := ((Pl.by8_eq n _ h0 h1).1 rfl).symm
theorem w64 (x : Int) (h0 : -9223372036854775808 ≤ x) (h1 : x ≤ 9223372036854775807) : IntKind.i64.wrap x = x := by
  unfold IntKind.wrap
  simp [IntKind.bits, IntKind.signed]
  omega
theorem w8 (x : Int) (h0 : 0 ≤ x) (h1 : x < 256) : IntKind.u8.wrap x = x := by
  unfold IntKind.wrap
  simp [IntKind.bits, IntKind.signed]
  omega
theorem dec_len : ∀ n : Nat, (decDigits n).length ≤ n + 1 := by
  intro n
  induction n using Nat.strongRecOn with
  | ind n ih =>
    rw [decDigits]
    by_cases h : n < 10
    · rw [dif_pos h]; simp
    · rw [dif_neg h, List.length_append]
      have := ih (n / 10) (by omega)
      simp only [List.length_cons, List.length_nil]
      omega
theorem ba_join (a b : List UInt8) : (⟨a.toArray⟩ : ByteArray) ++ ⟨b.toArray⟩ = ⟨(a ++ b).toArray⟩ := by
  apply ByteArray.ext
  simp
end Go.Proofs.Ytnfolnngnmiieaa
