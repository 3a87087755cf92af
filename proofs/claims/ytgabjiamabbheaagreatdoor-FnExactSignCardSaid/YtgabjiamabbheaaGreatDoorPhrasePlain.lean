
/- Plain mathematics of Phrase: lists of bytes alone; no program. -/
import Derived.Test.YtgabjiamabbheaaGreatDoorFoldPlain
import Derived.Lib.SplitLaws
namespace Go.Proofs.YtgabjiamabbheaaGreatDoor
open Go.Lib
namespace Pl
/-- A byte that may stand in a phrase. -/
def tb (c : UInt8) : Bool := decide (32 ≤ c.toNat) && !(c == 127)
def signs : List UInt8 := [33, 35, 36, 37, 38, 39, 42, 43, 45, 47, 61, 63, 94, 95, 123, 124, 125, 126, 96]
def signs0 : List UInt8 := [33, 35, 36, 37, 38, 39, 42, 43, 45, 47, 61, 63, 94, 95, 123, 124, 125, 126]
def alnum (c : UInt8) : Bool := decide (65 ≤ c.toNat ∧ c.toNat ≤ 90) || (decide (97 ≤ c.toNat ∧ c.toNat ≤ 122) || (decide (48 ≤ c.toNat ∧ c.toNat ≤ 57) || decide (128 ≤ c.toNat)))
/-- A byte of an atom. -/
def atom (c : UInt8) : Bool := alnum c || decide (0 ≤ indexByte signs c)
def atom' (c : UInt8) : Bool := alnum c || (c == 96 || (decide (32 < c.toNat) && (decide (c.toNat < 127) && decide (0 ≤ indexByte signs0 c))))
set_option maxRecDepth 20000 in
theorem atom_all : ∀ n, n < 256 → atom (UInt8.ofNat n) = atom' (UInt8.ofNat n) := by decide +kernel
set_option maxRecDepth 20000 in
theorem atom_eq (c : UInt8) : atom' c = atom c := by
  have := atom_all c.toNat (UInt8.toNat_lt c)
  rw [UInt8.ofNat_toNat] at this
  exact this.symm
set_option maxRecDepth 20000 in
theorem atom_blank : atom 32 = false := by decide +kernel
set_option maxRecDepth 20000 in
theorem atom_point : atom 46 = false := by decide +kernel

/-- Are these atoms with one byte d between each two? The flag: an atom has begun. -/
def scan (d : UInt8) : Bool → List UInt8 → Bool
  | was, [] => was
  | was, c :: r => if atom c then scan d true r else if c == d && was then scan d false r else false
/-- Cut at each d. -/
def sp (d : UInt8) : List UInt8 → List (List UInt8)
  | [] => [[]]
  | c :: r => if c = d then [] :: sp d r else match sp d r with | h :: t => (c :: h) :: t | [] => [[c]]
def okA (p : List UInt8) : Bool := !p.isEmpty && p.all atom
set_option maxRecDepth 20000 in
theorem sp_ne (d : UInt8) (l : List UInt8) : ∃ h t, sp d l = h :: t := by
  cases l with
  | nil => exact ⟨[], [], rfl⟩
  | cons c r =>
    unfold sp
    split
    · exact ⟨_, _, rfl⟩
    · cases sp d r with
      | nil => exact ⟨_, _, rfl⟩
      | cons h t => exact ⟨_, _, rfl⟩
set_option maxRecDepth 20000 in
theorem scan_sp (d : UInt8) (hd : atom d = false) : ∀ (l h : List UInt8) (t : List (List UInt8)), sp d l = h :: t → scan d true l = (h.all atom && t.all okA) ∧ scan d false l = (okA h && t.all okA)
  | [], h, t, e => by
    simp only [sp, List.cons.injEq] at e
    obtain ⟨rfl, rfl⟩ := e
    exact ⟨rfl, rfl⟩
  | c :: r, h, t, e => by
    obtain ⟨h', t', e'⟩ := sp_ne d r
    obtain ⟨i1, i2⟩ := scan_sp d hd r h' t' e'
    by_cases hc : c = d
    · subst hc
      rw [sp, if_pos rfl, List.cons.injEq] at e
      obtain ⟨rfl, rfl⟩ := e
      constructor
      · rw [scan, if_neg (by rw [hd]; simp), if_pos (by simp), i2, e']
        rfl
      · rw [scan, if_neg (by rw [hd]; simp), if_neg (by simp)]
        rfl
    · rw [sp, if_neg hc, e'] at e
      simp only [List.cons.injEq] at e
      obtain ⟨rfl, rfl⟩ := e
      by_cases ha : atom c = true
      · constructor
        · rw [scan, if_pos ha, i1, List.all_cons, ha, Bool.true_and]
        · rw [scan, if_pos ha, i1, okA, List.all_cons, ha, Bool.true_and]
          rfl
      · rw [Bool.not_eq_true] at ha
        have hn : (c == d) = false := by simpa using hc
        constructor
        · rw [scan, if_neg (by rw [ha]; simp), hn, List.all_cons, ha]
          rfl
        · rw [scan, if_neg (by rw [ha]; simp), hn, okA, List.all_cons, ha]
          simp
set_option maxRecDepth 20000 in
theorem scan_all (d : UInt8) (hd : atom d = false) (l : List UInt8) : (sp d l).all okA = scan d false l := by
  obtain ⟨h, t, e⟩ := sp_ne d l
  rw [(scan_sp d hd l h t e).2, e, List.all_cons]
set_option maxRecDepth 20000 in
/-- The library's cut is ours. -/
theorem split_sp (d : UInt8) : ∀ l : List UInt8, splitK [d] 0 (count l [d]) l = sp d l
  | [] => by rw [count_miss (by simp [index])]; rfl
  | c :: r => by
    have ih := split_sp d r
    by_cases hc : c = d
    · subst hc
      have hix : index (c :: r) [c] = 0 := by rw [index]; simp [List.isPrefixOf]
      rw [count_cons_eq, Nat.add_comm, splitK, hix, if_neg (by decide), sp, if_pos rfl, ← ih]
      rfl
    · have hp : ([d] : List UInt8).isPrefixOf (c :: r) = false := by simp [List.isPrefixOf, Ne.symm hc]
      have hix : index (c :: r) [d] = if index r [d] == -1 then -1 else index r [d] + 1 := by rw [index, hp]; simp
      rw [count_cons_ne c d r hc, sp, if_neg hc, ← ih]
      by_cases hm : index r [d] = -1
      · rw [count_miss hm]
        rfl
      · have hge := index_ge r [d]
        obtain ⟨j, hj⟩ : ∃ j : Nat, index r [d] = j := ⟨(index r [d]).toNat, by omega⟩
        have hne : (index r [d] == -1) = false := by rw [hj]; simp
        rw [hne] at hix
        simp only [Bool.false_eq_true, if_false] at hix
        have hne2 : (index (c :: r) [d] == -1) = false := by rw [hix, hj]; simp; omega
        obtain ⟨k, hk⟩ : ∃ k, count r [d] = k + 1 := ⟨count (r.drop (j + 1)) [d], by rw [count_hit (by simp) hj]; simp; omega⟩
        rw [hk, splitK, splitK, hne, hne2, hix, hj]
        have e1 : ((j : Int) + 1).toNat = j + 1 := by omega
        simp only [Bool.false_eq_true, if_false, e1, Int.toNat_natCast, Nat.add_zero, List.take_succ_cons, List.length_cons, List.length_nil]
        rfl
/-- Quoted. -/
def qs : List UInt8 → List UInt8
  | [] => []
  | c :: r => if c == 34 || c == 92 then 92 :: c :: qs r else c :: qs r
set_option maxRecDepth 20000 in
theorem qs_esc (l p x : List UInt8) (k : Nat) (hk : k < l.length) (h : (l[k] == 34 || l[k] == 92) = true) (hp : p ++ qs (l.drop k) = x) : (p ++ [92] ++ [l[k]]) ++ qs (l.drop (k + 1)) = x := by
  rw [drop_cons l k hk, qs, if_pos h] at hp
  simpa using hp
set_option maxRecDepth 20000 in
theorem qs_plain (l p x : List UInt8) (k : Nat) (hk : k < l.length) (h : (l[k] == 34 || l[k] == 92) = false) (hp : p ++ qs (l.drop k) = x) : (p ++ [l[k]]) ++ qs (l.drop (k + 1)) = x := by
  rw [drop_cons l k hk, qs, if_neg (by rw [h]; simp)] at hp
  simpa using hp
set_option maxRecDepth 20000 in
theorem qs_done (l p x : List UInt8) (k : Nat) (hk : l.length ≤ k) (hp : p ++ qs (l.drop k) = x) : p = x := by
  rw [List.drop_eq_nil_of_le hk] at hp
  simpa [qs] using hp
def phrase (l : List UInt8) : List UInt8 := if l.all tb then (if scan 32 false l then l else 34 :: qs l ++ [34]) else []
end Pl
end Go.Proofs.YtgabjiamabbheaaGreatDoor
