
/- A number in digits, the specification's side. -/
import Derived.Test.YtdlbkedjkkapgaaDoorGenBase
import Derived.Lib.ItoaNum
import Derived.Deep.QuietTactic
import Derived.BigQuiet
import Derived.Deep.RegionWith
import Derived.Laws.OwnMore
import Derived.WalkSmall
namespace Go.Proofs.YtdlbkedjkkapgaaDoor
open Go.RowKit Go.Lib
namespace Pl
def by8 (n : Int) : UInt8 := UInt8.ofNat n.toNat
theorem by8_eq (n : Int) (a : UInt8) (h0 : 0 ≤ n) (h1 : n < 256) : by8 n = a ↔ n = (a.toNat : Int) := by
  constructor
  · rintro rfl
    simp [by8, UInt8.toNat_ofNat']
    omega
  · intro h
    apply UInt8.toNat_inj.1
    simp [by8, UInt8.toNat_ofNat']
    omega
end Pl
theorem by8_val (n : Int) (h0 : 0 ≤ n) (h1 : n < 256) : ((Pl.by8 n).toNat : Int) = n := ((Pl.by8_eq n _ h0 h1).1 rfl).symm
theorem w64 (x : Int) (h0 : -9223372036854775808 ≤ x) (h1 : x ≤ 9223372036854775807) : IntKind.i64.wrap x = x := by
  unfold IntKind.wrap
  simp [IntKind.bits, IntKind.signed]
  omega
theorem w8 (x : Int) (h0 : 0 ≤ x) (h1 : x < 256) : IntKind.u8.wrap x = x := by
  unfold IntKind.wrap
  simp [IntKind.bits, IntKind.signed]
  omega
theorem text1 (c : UInt8) (w : World) : (convert 73 9 (.slice (some ⟨w.heap.size, 0, none⟩) 1 1)).run Tryd.prog (w.alloc (.cells #[.int .u8 (c.toNat : Int)] 5)) = .ok (.string ⟨#[c]⟩) (w.alloc (.cells #[.int .u8 (c.toNat : Int)] 5)) := by
  refine run_convert_bytes_back (P := Tryd.prog) _ 73 9 5 ⟨w.heap.size, 0, none⟩ 1 [c] Tryd.underlying73 Tryd.underlying5 Tryd.underlying9 ?_
  intro j hj
  match j, hj with
  | 0, hj => rw [add_off]; simp
theorem dec_len : ∀ n : Nat, (decDigits n).length ≤ n + 1 := by
  intro n
  induction n using Nat.strongRecOn with
  | ind n ih =>
    rw [decDigits]
    by_cases h : n < 10
    · rw [dif_pos h]; simp
    · rw [dif_neg h, List.length_append]
      have := ih (n / 10) (by omega)
      simp only [List.length_cons, List.length_nil]
      omega
theorem ba_join (a b : List UInt8) : (⟨a.toArray⟩ : ByteArray) ++ ⟨b.toArray⟩ = ⟨(a ++ b).toArray⟩ := by
  apply ByteArray.ext
  simp
theorem textD (d : Int) (h0 : 0 ≤ d) (h1 : d < 256) (w : World) : (convert 73 9 (.slice (some ⟨w.heap.size, 0, none⟩) 1 1)).run Tryd.prog (w.alloc (.cells #[.int .u8 d] 5)) = .ok (.string ⟨#[Pl.by8 d]⟩) (w.alloc (.cells #[.int .u8 d] 5)) := by
  have := text1 (Pl.by8 d) w
  rw [by8_val d h0 h1] at this
  exact this
theorem textAt (d : Int) (h0 : 0 ≤ d) (h1 : d < 256) (w w3 : World) (hb : Below (w.alloc (.cells #[.int .u8 d] 5)).heap.size (w.alloc (.cells #[.int .u8 d] 5)).drew w3) :
    (convert 73 9 (.slice (some ⟨w.heap.size, 0, none⟩) 1 1)).run Tryd.prog w3 = .ok (.string ⟨#[Pl.by8 d]⟩) w3 := by
  refine run_convert_bytes_back (P := Tryd.prog) _ 73 9 5 ⟨w.heap.size, 0, none⟩ 1 [Pl.by8 d] Tryd.underlying73 Tryd.underlying5 Tryd.underlying9 ?_
  intro j hj
  match j, hj with
  | 0, hj =>
    rw [add_off]
    refine (hb.cell (p := ⟨w.heap.size, 0, none⟩) (by simp)).trans ?_
    rw [List.getElem_singleton, by8_val d h0 h1]
    simp
theorem textDd (d : Int) (h0 : 0 ≤ d) (h1 : d < 256) (w : World) : (convert 73 9 (.slice (some ⟨w.heap.size, 0, none⟩) 1 1)).run Tryd.prog (w.alloc (.cells #[.int .u8 d] 5)).drew = .ok (.string ⟨#[Pl.by8 d]⟩) (w.alloc (.cells #[.int .u8 d] 5)).drew := textD d h0 h1 w.drew
end Go.Proofs.YtdlbkedjkkapgaaDoor
