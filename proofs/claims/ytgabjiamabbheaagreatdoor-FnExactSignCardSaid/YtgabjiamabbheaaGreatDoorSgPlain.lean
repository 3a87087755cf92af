
/- What a head's sum is of, plainly: marks against a list that is cut; sizes. Laws of no program. -/
import Derived.Test.YtgabjiamabbheaaGreatDoorPick
import Derived.Test.YtgabjiamabbheaaGreatDoorCanonFieldSpec
import Derived.Test.YtgabjiamabbheaaGreatDoorCanonBodySpec
import Derived.Test.YtgabjiamabbheaaGreatDoorReadSpec
namespace Go.Proofs.YtgabjiamabbheaaGreatDoor
open Go.RowKit Go.Lib
def nmF (m : ByteArray) (f : Fd) : Bool := namedB f.1 m
/-- What is taken, by marks. -/
def tkZ (h : Int) : List ByteArray → List (Fd × Bool) → List UInt8
  | [], _ => []
  | m :: ms, Z =>
    match lastTo (unAt (nmF m) Z) Z.length with
    | none => tkZ h ms Z
    | some k =>
      match Z[k]? with
      | none => tkZ h ms Z
      | some q => (canonF q.1.1 q.1.2 h).data.toList ++ tkZ h ms (Z.set k (q.1, true))
/-- What is taken, off a list. -/
def tkL (h : Int) : List ByteArray → List Fd → List UInt8
  | [], _ => []
  | m :: ms, L =>
    match lastTo (mtAt (nmF m) L) L.length with
    | none => tkL h ms L
    | some k =>
      match L[k]? with
      | none => tkL h ms L
      | some f => (canonF f.1 f.2 h).data.toList ++ tkL h ms (L.eraseIdx k)
set_option maxRecDepth 20000 in
theorem tkZ_none (h : Int) (m : ByteArray) (ms : List ByteArray) (Z : List (Fd × Bool)) (h1 : lastTo (unAt (nmF m) Z) Z.length = none) : tkZ h (m :: ms) Z = tkZ h ms Z := by
  rw [tkZ, h1]
set_option maxRecDepth 20000 in
theorem tkZ_some (h : Int) (m : ByteArray) (ms : List ByteArray) (Z : List (Fd × Bool)) (k : Nat) (q : Fd × Bool) (h1 : lastTo (unAt (nmF m) Z) Z.length = some k) (h2 : Z[k]? = some q) : tkZ h (m :: ms) Z = (canonF q.1.1 q.1.2 h).data.toList ++ tkZ h ms (Z.set k (q.1, true)) := by
  rw [tkZ, h1]
  simp only [h2]
set_option maxRecDepth 20000 in
theorem tkL_none (h : Int) (m : ByteArray) (ms : List ByteArray) (L : List Fd) (h1 : lastTo (mtAt (nmF m) L) L.length = none) : tkL h (m :: ms) L = tkL h ms L := by
  rw [tkL, h1]
set_option maxRecDepth 20000 in
theorem tkL_some (h : Int) (m : ByteArray) (ms : List ByteArray) (L : List Fd) (k : Nat) (f : Fd) (h1 : lastTo (mtAt (nmF m) L) L.length = some k) (h2 : L[k]? = some f) : tkL h (m :: ms) L = (canonF f.1 f.2 h).data.toList ++ tkL h ms (L.eraseIdx k) := by
  rw [tkL, h1]
  simp only [h2]
set_option maxRecDepth 20000 in
theorem tk_eq (h : Int) : ∀ (ms : List ByteArray) (Z : List (Fd × Bool)), tkZ h ms Z = tkL h ms (keep Z)
  | [], Z => rfl
  | m :: ms, Z => by
    rcases pick (nmF m) Z with ⟨h1, h2⟩ | ⟨k, f, k', h1, h2, h3, h4, h5⟩
    · rw [tkZ_none h m ms Z h1, tkL_none h m ms _ h2]
      exact tk_eq h ms Z
    · rw [tkZ_some h m ms Z k _ h1 h2, tkL_some h m ms _ k' f h3 h4, h5, ← tk_eq h ms]
set_option maxRecDepth 20000 in
theorem keep_new (L : List Fd) : keep (L.map fun f => (f, false)) = L := by
  unfold keep
  induction L with
  | nil => rfl
  | cons f r ih => simp at ih ⊢; exact ih
/-- Sizes. -/
def fsz (f : Fd) : Nat := f.1.size + f.2.size + 3
def fsum (L : List Fd) : Nat := (L.map fsz).sum
set_option maxRecDepth 20000 in
theorem canonF_size (n v : ByteArray) (x : Int) : (canonF n v x).size ≤ fsz (n, v) := by
  unfold canonF fsz
  have e1 : (lower n.data.toList).length = n.size := by rw [lower, List.length_map]; simp
  have e2 : (relaxV v).length ≤ v.size := by
    refine Nat.le_trans (Pl.trimB_len _) (Nat.le_trans (Pl.runs_len _) ?_)
    refine Nat.le_trans (Pl.unf_len _ _) ?_
    simp
  split
  · exact Nat.zero_le _
  · split
    · simp [ByteArray.size_append]; show _ + 1 + _ + 2 ≤ _; omega
    · split
      · simp only [ByteArray.size_append]
        have e3 : (⟨(lower n.data.toList).toArray⟩ : ByteArray).size = n.size := by show ((lower n.data.toList).toArray).size = _; rw [List.size_toArray]; exact e1
        have e4 : (⟨(relaxV v).toArray⟩ : ByteArray).size ≤ v.size := by show ((relaxV v).toArray).size ≤ _; rw [List.size_toArray]; exact e2
        rw [e3]
        show _ + 1 + _ + 2 ≤ n.size + v.size + 3
        omega
      · exact Nat.zero_le _
set_option maxRecDepth 20000 in
theorem sum_erase {α : Type} (g : α → Nat) : ∀ (L : List α) (k : Nat) (f : α), L[k]? = some f → (L.map g).sum = g f + ((L.eraseIdx k).map g).sum
  | [], k, f, h => by simp at h
  | a :: r, 0, f, h => by simp at h; subst h; simp
  | a :: r, k + 1, f, h => by
    have := sum_erase g r k f (by simpa using h)
    simp [this]
    omega
set_option maxRecDepth 20000 in
theorem tkL_len (h : Int) : ∀ (ms : List ByteArray) (L : List Fd), (tkL h ms L).length ≤ fsum L
  | [], L => Nat.zero_le _
  | m :: ms, L => by
    cases h1 : lastTo (mtAt (nmF m) L) L.length with
    | none => rw [tkL_none h m ms L h1]; exact tkL_len h ms L
    | some k =>
      cases h2 : L[k]? with
      | none => exact absurd (lastTo_lt _ _ h1) (by have := List.getElem?_eq_none_iff.1 h2; omega)
      | some f =>
        rw [tkL_some h m ms L k f h1 h2, List.length_append]
        have a := canonF_size f.1 f.2 h
        have b := tkL_len h ms (L.eraseIdx k)
        have c := sum_erase fsz L k f h2
        have e : (canonF f.1 f.2 h).data.toList.length = (canonF f.1 f.2 h).size := by simp
        unfold fsum at b ⊢
        rw [e, c]
        have : fsz (f.1, f.2) = fsz f := rfl
        omega
end Go.Proofs.YtgabjiamabbheaaGreatDoor
