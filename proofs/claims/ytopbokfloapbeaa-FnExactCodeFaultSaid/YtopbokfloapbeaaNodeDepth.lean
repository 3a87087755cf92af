
/- How deep nodes are, the program's side. -/
import Derived.Test.YtopbokfloapbeaaNodeRKids3
import Derived.Test.YtopbokfloapbeaaTreePlain
namespace Go.Proofs.Ytopbokfloapbeaa
open Go.RowKit Go.Lib Go.Maps
theorem Try.info3 : (Try.prog.info? 3).map (fun i => (i.zero, i.size, i.bytes)) = some (some (.int .i64 0), 1, 8) := by kernel_rfl
namespace Tr
theorem mx_snoc (dep : Nat → Nat) (l : List Int) (k : Int) : mx dep (l ++ [k]) = max (mx dep l) (dep k.toNat) := by
  induction l with
  | nil => simp [mx]
  | cons a r ih => simp only [List.cons_append, mx, ih]; omega
end Tr
namespace Fn
/-- The depths, node by node; kids that stand behind their node count as nothing. -/
def depTo (F : List Nd) : Nat → Nat → Nat
  | 0, _ => 0
  | n + 1, i => if i = n then Tr.mx (depTo F n) (kids F n) + 1 else depTo F n i
theorem depTo_le (F : List Nd) : ∀ n i, depTo F n i ≤ n
  | 0, _ => Nat.le_refl _
  | n + 1, i => by
    unfold depTo
    split
    · have := (Tr.mx_le (depTo F n) (kids F n) n).2 (fun k _ => depTo_le F n k.toNat)
      omega
    · have := depTo_le F n i
      omega
end Fn
end Go.Proofs.Ytopbokfloapbeaa
