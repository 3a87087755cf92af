
/- Where the nodes below one begin: the specification's recursion. -/
import Derived.Test.YtopbokfloapbeaaNodeKids
import Derived.Test.YtopbokfloapbeaaTreePlain
namespace Go.Proofs.Ytopbokfloapbeaa
open Go.RowKit Go.Lib Go.Maps
namespace Tr
theorem fo_mem {ok : Nat → Bool} {kids : Nat → List Int} {d lo hi : Nat} {ks : List Int} (h : Fo ok kids d lo hi ks) : lo ≤ hi ∧ ∀ k ∈ ks, 0 ≤ k ∧ k < (hi : Int) := by
  induction h with
  | nil d a => exact ⟨Nat.le_refl _, fun k hk => by cases hk⟩
  | snoc d lo m k ks _ _ _ ih1 ih2 =>
    obtain ⟨a1, a2⟩ := ih1
    obtain ⟨b1, -⟩ := ih2
    refine ⟨by omega, fun j hj => ?_⟩
    rcases List.mem_append.1 hj with hj | hj
    · have := a2 j hj; omega
    · obtain rfl : j = (k : Int) := by simpa using hj
      omega
theorem span_le {ok : Nat → Bool} {kids : Nat → List Int} (f i s : Nat) (h : span ok kids f i = some s) : s ≤ i := by
  obtain ⟨-, d, -, h2⟩ := span_fo f i s h
  exact (fo_mem h2).1
theorem down_mem {ok : Nat → Bool} {kids : Nat → List Int} (f : Nat) (ks : List Int) (e s : Nat) (h : down (span ok kids f) ks.reverse e = some s) : ∀ k ∈ ks, 0 ≤ k ∧ k < (e : Int) := by
  have := down_fo f (span_fo f) _ _ _ h
  rw [List.reverse_reverse] at this
  exact (fo_mem this).2
def spV : Option Nat → Int
  | none => -1
  | some s => s
end Tr
namespace Fn
def kindAt (F : List Nd) (k : Int) : Int := (F[k.toNat]?.map (·.kind)).getD 0
def kids (F : List Nd) (i : Nat) : List Int := (F[i]?.map (·.kids)).getD []
def ok (F : List Nd) (i : Nat) : Bool := (F[i]?.map fun n => fieldsOk n && kidsOk n.kind (n.kids.map (kindAt F))).getD false
end Fn
end Go.Proofs.Ytopbokfloapbeaa
