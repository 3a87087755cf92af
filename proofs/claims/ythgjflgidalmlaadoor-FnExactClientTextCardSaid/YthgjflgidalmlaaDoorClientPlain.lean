
/- What a client sends: plain. -/
import Derived.Test.YthgjflgidalmlaaDoorSpecEnds
import Derived.Test.YthgjflgidalmlaaDoorSpecKeyFault
import Derived.Test.YthgjflgidalmlaaDoorGenAccepted
namespace Go.Proofs.YthgjflgidalmlaaDoor
namespace Ct
abbrev mailA : ByteArray := ⟨#[77, 65, 73, 76, 32, 70, 82, 79, 77, 58, 60]⟩
abbrev rcptA : ByteArray := ⟨#[82, 67, 80, 84, 32, 84, 79, 58, 60]⟩
abbrev endA : ByteArray := ⟨#[62, 13, 10]⟩
abbrev dataA : ByteArray := ⟨#[68, 65, 84, 65, 13, 10]⟩
abbrev quitA : ByteArray := ⟨#[81, 85, 73, 84, 13, 10]⟩
abbrev ehloA : ByteArray := ⟨#[69, 72, 76, 79, 32]⟩
/-- The lines of those who are to get a mail, behind a text. -/
def rc : List ByteArray → ByteArray → Option ByteArray
  | [], o => some o
  | t :: r, o => if Ky.ok t then rc r (o ++ rcptA ++ t ++ endA) else none
def fromOk (t : ByteArray) : Bool := (t.toList == ([] : List UInt8)) || Ky.ok t
def hd (m : GAccepted) : Bool := fromOk m.fromF && (decide (1 ≤ m.toF.length) && (decide (m.toF.length ≤ 100) && (decide (m.message.size ≤ 100000) && (endsLine m.message && (m.user.toList == ([] : List UInt8))))))
def few (o : ByteArray) : Option ByteArray := if o.size ≤ 100000 then some o else none
def one (m : GAccepted) (o : ByteArray) : Option ByteArray :=
  if hd m then (rc m.toF (o ++ mailA ++ m.fromF ++ endA)).bind fun x => few (x ++ dataA ++ ⟨(Pl.stuff m.message.data.toList).toArray⟩) else none
def all : List GAccepted → ByteArray → Option ByteArray
  | [], o => some o
  | m :: r, o => (one m o).bind (all r)
def run (n : ByteArray) (M : List GAccepted) : Option ByteArray :=
  if Pl.domI n.data.toList && (decide (1 ≤ M.length) && decide (M.length ≤ 100)) then (all M (ehloA ++ n ++ ⟨#[13, 10]⟩)).bind fun x => few (x ++ quitA) else none
end Ct
abbrev plClientText (n : ByteArray) (M : List GAccepted) : ByteArray := (Ct.run n M).getD ⟨#[]⟩
namespace Ct
theorem few_size {o x : ByteArray} (h : few o = some x) : x = o ∧ o.size ≤ 100000 := by
  unfold few at h
  split at h
  · rename_i hs
    exact ⟨(Option.some.inj h).symm, hs⟩
  · cases h
theorem one_size {m : GAccepted} {o x : ByteArray} (h : one m o = some x) : x.size ≤ 100000 := by
  unfold one at h
  split at h
  · cases hr : rc m.toF (o ++ mailA ++ m.fromF ++ endA) with
    | none => rw [hr] at h; cases h
    | some y =>
      rw [hr] at h
      obtain ⟨rfl, hs⟩ := few_size h
      exact hs
  · cases h
theorem rc_step (F : List ByteArray) (k : Nat) (h : k < F.length) (o : ByteArray) : rc (F.drop k) o = if Ky.ok F[k] then rc (F.drop (k + 1)) (o ++ rcptA ++ F[k] ++ endA) else none := by
  rw [List.drop_eq_getElem_cons h, rc]
theorem all_step (M : List GAccepted) (k : Nat) (h : k < M.length) (o : ByteArray) : all (M.drop k) o = (one M[k] o).bind (all (M.drop (k + 1))) := by
  rw [List.drop_eq_getElem_cons h, all]
end Ct
end Go.Proofs.YthgjflgidalmlaaDoor
