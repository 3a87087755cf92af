
/- What an address stands for: plain. -/
import Derived.Test.YtfkjbamjppnohaaDoorGenAlias
namespace Go.Proofs.YtfkjbamjppnohaaDoor
open Go.RowKit Go.Lib
namespace Ex
def same (x y : ByteArray) : Bool := x.data.toList == y.data.toList
theorem same_iff (x y : ByteArray) : same x y = true ↔ x = y := by
  unfold same
  rw [beq_iff_eq]
  constructor
  · intro h
    exact ByteArray.ext (Array.toList_inj.1 h)
  · rintro rfl
    rfl
def isIn (l : List ByteArray) (k : ByteArray) : Bool := l.any fun x => same x k
theorem isIn_iff (l : List ByteArray) (k : ByteArray) : isIn l k = true ↔ k ∈ l := by
  unfold isIn
  rw [List.any_eq_true]
  constructor
  · rintro ⟨x, hx, h⟩
    rw [(same_iff x k).1 h] at hx
    exact hx
  · intro h
    exact ⟨k, h, (same_iff k k).2 rfl⟩
theorem isIn_no (l : List ByteArray) (k : ByteArray) : isIn l k = false ↔ k ∉ l := by
  rw [← isIn_iff, Bool.not_eq_true]
theorem isIn_app (l : List ByteArray) (k z : ByteArray) : isIn (l ++ [k]) z = (isIn l z || same k z) := by
  unfold isIn
  rw [List.any_append]
  simp
def find (A : List GAlias) (k : ByteArray) : Option GAlias := A.find? fun a => same a.name k
structure St where
  out : List ByteArray
  past : List ByteArray
def add (s : St) (k : ByteArray) : St × Int := if isIn s.out k then (s, 0) else if s.out.length = 200 then (s, 4) else (⟨s.out ++ [k], s.past⟩, 0)
def all (f : St → ByteArray → St × Int) : St → List ByteArray → St × Int
  | s, [] => (s, 0)
  | s, k :: r => if (f s k).2 = 0 then all f (f s k).1 r else f s k
/-- The fuel: how many more aliases the way may have. -/
def go (A : List GAlias) : Nat → List ByteArray → St → ByteArray → St × Int
  | 0, way, s, k => match find A k with
    | none => add s k
    | some _ => if isIn way k then (s, 9) else if isIn s.past k then (s, 0) else (s, 4)
  | n + 1, way, s, k => match find A k with
    | none => add s k
    | some al => if isIn way k then (s, 9) else if isIn s.past k then (s, 0) else
        (⟨(all (go A n (way ++ [k])) s al.toF).1.out, (all (go A n (way ++ [k])) s al.toF).1.past ++ [k]⟩, (all (go A n (way ++ [k])) s al.toF).2)
/-- What always holds: the aliases on the way and those gone through are told apart, and are aliases. -/
structure Inv (A : List GAlias) (way : List ByteArray) (s : St) : Prop where
  nodup : (way ++ s.past).Nodup
  named : ∀ k ∈ way ++ s.past, (find A k).isSome = true
  few : s.out.length ≤ 201
theorem nodup_le : ∀ (l m : List ByteArray), l.Nodup → (∀ x ∈ l, x ∈ m) → l.length ≤ m.length
  | [], _, _, _ => Nat.zero_le _
  | x :: r, m, hn, hs => by
    rw [List.nodup_cons] at hn
    have hx := hs x List.mem_cons_self
    obtain ⟨a, b, rfl⟩ := List.append_of_mem hx
    have := nodup_le r (a ++ b) hn.2 (fun y hy => by
      have h := hs y (List.mem_cons_of_mem _ hy)
      rw [List.mem_append, List.mem_cons] at h
      rw [List.mem_append]
      rcases h with h | rfl | h
      · exact .inl h
      · exact absurd hy hn.1
      · exact .inr h)
    rw [List.length_append] at this
    rw [List.length_append, List.length_cons, List.length_cons]
    omega
theorem find_mem (A : List GAlias) (k : ByteArray) (al : GAlias) (h : find A k = some al) : al ∈ A ∧ al.name = k := by
  have h1 := List.mem_of_find?_eq_some h
  have h2 := List.find?_some h
  exact ⟨h1, (same_iff _ _).1 h2⟩
theorem Inv.short {A : List GAlias} {way : List ByteArray} {s : St} (h : Inv A way s) : way.length + s.past.length ≤ A.length := by
  have := nodup_le (way ++ s.past) (A.map (·.name)) h.nodup (fun x hx => by
    obtain ⟨al, ha⟩ := Option.isSome_iff_exists.1 (h.named x hx)
    obtain ⟨h1, h2⟩ := find_mem A x al ha
    exact List.mem_map.2 ⟨al, h1, h2⟩)
  rw [List.length_append, List.length_map] at this
  exact this
theorem Inv.push {A : List GAlias} {way : List ByteArray} {s : St} (h : Inv A way s) (k : ByteArray) (hk : (find A k).isSome = true) (h1 : isIn way k = false) (h2 : isIn s.past k = false) : Inv A (way ++ [k]) s := by
  rw [isIn_no] at h1 h2
  have hp : (way ++ [k] ++ s.past).Perm (k :: (way ++ s.past)) := by
    rw [List.append_assoc]
    exact List.perm_middle
  refine ⟨?_, ?_, h.few⟩
  · rw [hp.nodup_iff, List.nodup_cons]
    refine ⟨?_, h.nodup⟩
    rw [List.mem_append]
    rintro (h | h)
    · exact h1 h
    · exact h2 h
  · intro x hx
    rcases List.mem_cons.1 (hp.mem_iff.1 hx) with rfl | hx
    · exact hk
    · exact h.named x hx
theorem Inv.pop {A : List GAlias} {way : List ByteArray} {s : St} {k : ByteArray} (h : Inv A (way ++ [k]) s) : Inv A way ⟨s.out, s.past ++ [k]⟩ := by
  have hp : (way ++ (s.past ++ [k])).Perm (way ++ [k] ++ s.past) := by
    rw [List.append_assoc]
    exact List.Perm.append_left way (List.perm_append_comm)
  refine ⟨hp.nodup_iff.2 h.nodup, fun x hx => h.named x (hp.mem_iff.1 hx), h.few⟩
theorem Inv.past_way {A : List GAlias} {way : List ByteArray} {s : St} (h : Inv A way s) (k : ByteArray) (hk : isIn s.past k = true) : isIn way k = false ∧ (find A k).isSome = true := by
  rw [isIn_iff] at hk
  refine ⟨?_, h.named k (List.mem_append_right _ hk)⟩
  rw [isIn_no]
  intro hw
  have := h.nodup
  rw [List.nodup_append] at this
  exact this.2.2 k hw k hk rfl
end Ex
end Go.Proofs.YtfkjbamjppnohaaDoor
