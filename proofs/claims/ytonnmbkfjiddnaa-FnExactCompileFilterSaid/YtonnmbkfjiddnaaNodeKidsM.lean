
/- The kids of a filter's node, by its method; lists of numbers that a call has made, more. -/
import Derived.Test.YtonnmbkfjiddnaaNodeKinds
import Derived.Test.YtonnmbkfjiddnaaCompSpec3
import Derived.Lib.QuietBelow
import Derived.BigQuiet
import Derived.Handy
namespace Go.Proofs.Ytonnmbkfjiddnaa
open Go.RowKit Go.Lib Go.Maps
theorem methKids (n : Nd) (v4 v5 v6 : Value) (w : World) :
    Calls Try.prog 99 #[ndV n v4 v5 v6] w fun e w' => e = .returned v6 ∧ w' = w.alloc (.cells #[.int .i64 n.kind, .int .i64 n.num, .int .i64 n.mat, .string n.text, v4, v5, v6] 44) := by
  unfold ndV
  go_enter Try.func99, Try.ntmps99
  go_wp2
  go_ret
  exact ⟨rfl, rfl⟩
theorem methKidsB (n : Nd) (v4 v5 v6 : Value) (w : World) :
    Calls Try.prog 99 #[ndV n v4 v5 v6] w fun e w' => e = .returned v6 ∧ Below w.heap.size w w' :=
  (methKids n v4 v5 v6 w).mono fun _ _ ⟨h1, h2⟩ => ⟨h1, by rw [h2]; exact (Below.refl _ _).alloc (Nat.le_refl _) _⟩
/-- 213: the fuel of 'method' at the seat. -/
theorem methodK (v : Value) (w : World) : (method 213 44 v "loop.example/g00013/impl.kids").run Try.prog w = .ok (99, v) w := by kernel_rfl
theorem entersK : ∀ (args : Array Value) (w : World), (callFunc 99 args).run Try.prog w = .ok (.enter 99 args) w := Go.Proofs.enters_of Try.func99 (by kernel_rfl) rfl
theorem OwnN.form' {B : Nat} {v : Value} {P : List Int} {w : World} (h : OwnN B v P w) : ∃ o cap, v = .slice o P.length cap ∧ P.length ≤ cap ∧ (P = [] ∧ o = none ∧ cap = 0 ∨ ∃ g, o = some ⟨g, 0, none⟩ ∧ B ≤ g ∧ g < w.heap.size ∧ ∀ (j : Nat) (hj : j < P.length), w.cell? ⟨g, j, none⟩ = some (.int .i64 P[j])) := by
  have hl := World.ownsRow.lt h
  have hh := h
  rcases h.2 with ⟨rfl, h0⟩ | ⟨g, cap, cur, rfl, hB, -, hc, -⟩
  · exact ⟨none, 0, by rw [h0], by omega, .inl ⟨List.length_eq_zero_iff.1 h0, rfl, rfl⟩⟩
  · refine ⟨_, cap, rfl, hc, .inr ⟨g, rfl, hB, (hl g rfl).2, fun j hj => ?_⟩⟩
    have := World.ownsRow.cells hh (g := g) rfl j (.int .i64 P[j]) (by simp [numCells, hj])
    rwa [add_off] at this
theorem OwnN.cut {B n cap : Nat} {o : Option Addr} {P : List Int} {w : World} (h : OwnN B (.slice o n cap) P w) (k : Nat) (hk : k ≤ P.length) : OwnN B (.slice o k cap) (P.take k) w := by
  obtain ⟨h1, h2⟩ := h
  have hl : (P.take k).length = k := by rw [List.length_take]; omega
  refine ⟨by unfold numCells; rw [List.length_map, Nat.mul_one], ?_⟩
  rcases h2 with ⟨h2, h3⟩ | ⟨g', cap', cur, e1, e2, e3, e4, e5, e6, e7⟩
  · cases h2
    obtain rfl : k = 0 := by omega
    exact .inl ⟨rfl, by simp⟩
  · cases e1
    refine .inr ⟨g', cap, cur, by rw [hl], e2, e3, by omega, e5, e6, ?_⟩
    rw [hl, Nat.mul_one]
    rw [Nat.mul_one] at e7
    have e10 := congrArg (List.take k) e7
    rw [List.take_take, Nat.min_eq_left hk] at e10
    rw [e10]
    unfold numCells
    rw [List.map_take]
/-- What lies from a place on, as a list that is handed on. -/
theorem ints_drop {B : Nat} {P : List Int} {o o' : Option Addr} {cap m : Nat} {w : World} (hm : m ≤ P.length) (hc : P.length ≤ cap) (h : P = [] ∧ o = none ∧ cap = 0 ∨ ∃ g, o = some ⟨g, 0, none⟩ ∧ g < B ∧ ∀ (j : Nat) (hj : j < P.length), w.cell? ⟨g, j, none⟩ = some (.int .i64 P[j])) (ho : o' = (if cap = m then o else o.map (·.add m))) : Ints B w o' (P.drop m) := by
  intro k hk
  rw [List.length_drop] at hk
  rcases h with ⟨rfl, -, -⟩ | ⟨g, rfl, hg, hcell⟩
  · simp at hk
  · rw [if_neg (by omega)] at ho
    refine ⟨⟨g, m, none⟩, by rw [ho, Option.map_some, add_off], hg, ?_⟩
    rw [show (⟨g, m, none⟩ : Addr).add k = ⟨g, m + k, none⟩ by simp [Addr.add], hcell (m + k) (by omega), List.getElem_drop]
end Go.Proofs.Ytonnmbkfjiddnaa
