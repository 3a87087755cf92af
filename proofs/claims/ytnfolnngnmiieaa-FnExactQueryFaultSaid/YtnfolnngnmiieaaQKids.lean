
/- The kids of a query's node, by its method; lists of numbers that a call has made. -/
import Derived.Test.YtnfolnngnmiieaaSpecQSpan
import Derived.Test.YtnfolnngnmiieaaTreeMore
import Derived.Test.YtnfolnngnmiieaaImplRanges
import Derived.Lib.QuietBelow
import Derived.BigQuiet
import Derived.Handy
namespace Go.Proofs.Ytnfolnngnmiieaa
open Go.RowKit Go.Lib Go.Maps
theorem methKids (n : GQueryNode) (v4 v5 : Value) (w : World) :
    Calls Try.prog 76 #[GQueryNodeV n v4 v5] w fun e w' => e = .returned v5 ∧ w' = w.alloc (.cells #[.int .i64 n.kind, .string n.name, .string n.text, .int .i64 n.num, v4, v5] 37) := by
  unfold GQueryNodeV
  go_enter Try.func76, Try.ntmps76
  go_wp2
  go_ret
  exact ⟨rfl, rfl⟩
theorem methKidsB (n : GQueryNode) (v4 v5 : Value) (w : World) :
    Calls Try.prog 76 #[GQueryNodeV n v4 v5] w fun e w' => e = .returned v5 ∧ Below w.heap.size w w' :=
  (methKids n v4 v5 w).mono fun _ _ ⟨h1, h2⟩ => ⟨h1, by rw [h2]; exact (Below.refl _ _).alloc (Nat.le_refl _) _⟩
/-- 190: the fuel of 'method' at the seat. -/
theorem methodK (v : Value) (w : World) : (method 190 37 v "loop.example/g00013/impl.kids").run Try.prog w = .ok (76, v) w := by kernel_rfl
theorem entersK : ∀ (args : Array Value) (w : World), (callFunc 76 args).run Try.prog w = .ok (.enter 76 args) w := Go.Proofs.enters_of Try.func76 (by kernel_rfl) rfl
def numCells (P : List Int) : List Value := P.map (.int .i64)
/-- The slice v, whose array is among the blocks from B on, holds just the numbers P. -/
def OwnN (B : Nat) (v : Value) (P : List Int) (w : World) : Prop := w.ownsRow B 2 1 v P.length (numCells P)
theorem OwnN.made (B : Nat) (w : World) (h : B ≤ w.heap.size) : OwnN B (.slice (some ⟨w.heap.size, 0, none⟩) 0 0) [] (w.alloc (.cells #[] 2)) :=
  World.ownsRow_made w #[] 0 h (by unfold maxLen; omega) rfl
theorem OwnN.form {B : Nat} {v : Value} {P : List Int} {w : World} (h : OwnN B v P w) : ∃ o cap, v = .slice o P.length cap ∧ (∀ (j : Nat) (hj : j < P.length), ∃ g, o = some ⟨g, 0, none⟩ ∧ B ≤ g ∧ g < w.heap.size ∧ w.cell? ⟨g, j, none⟩ = some (.int .i64 P[j])) := by
  have hl := World.ownsRow.lt h
  have hh := h
  rcases h.2 with ⟨rfl, h0⟩ | ⟨g, cap, cur, rfl, hB, -, hc, -⟩
  · refine ⟨none, 0, by rw [h0], fun j hj => by omega⟩
  · refine ⟨_, cap, rfl, fun j hj => ⟨g, rfl, hB, (hl g rfl).2, ?_⟩⟩
    have := World.ownsRow.cells hh (g := g) rfl j (.int .i64 P[j]) (by simp [numCells, hj])
    rwa [add_off] at this
theorem OwnN.keep {B C : Nat} {v : Value} {P : List Int} {w w' : World} (h : OwnN B v P w) (hC : w.heap.size ≤ C) (hb : Below C w w') : OwnN B v P w' := by
  refine ⟨h.1, ?_⟩
  rcases h.2 with h | ⟨g, cap, cur, h1, h2, h3, h4⟩
  · exact .inl h
  · refine .inr ⟨g, cap, cur, h1, h2, ?_, h4⟩
    have hg : g < w.heap.size := by
      by_cases hg : g < w.heap.size
      · exact hg
      · rw [Array.getElem?_eq_none (by omega)] at h3; cases h3
    rw [hb.block g (by omega), h3]
/-- An append of one number. -/
theorem wp_appN {P : Program} {W w : World} {ops : Array Oper} {rest : List Oper} {o : Oper} {a : Act} {Q : Exit → Act → World → Prop} (hgd : o.guard = none) (s x : Operand) (t : TypeId)
    (ho : o.op = .call { callee := .builtin .append, args := #[s, x], argTypes := #[t, t] })
    (i : TypeInfo) (ht : P.underlying t = some (.slice 2)) (hi : P.info? 2 = some i) (hz : i.zero = some (.int .i64 0)) (hsize : i.size = 1) (hby : i.bytes = 8)
    (B : Nat) (v : Value) (p : List Int) (hs : a.eval s = v) (hown : OwnN B v p w) (new : Int)
    (hx : a.eval x = .slice (some ⟨w.heap.size, 0, none⟩) 1 1) (hlen : p.length ≤ 1048576) (hB : B ≤ W.heap.size) (hb : Below B W w)
    (h : ∀ v' w', OwnN B v' (p ++ [new]) w' → Below B W w' → wpList P ops Q rest (a.put o.dst v') w') : wpList P ops Q (o :: rest) a (w.alloc (.cells #[.int .i64 new] 2)) := by
  have hsz := hb.size
  refine wpList_append_own _ hgd s x t ho B 2 i (.int .i64 0) 1 8 ht hi hz hsize hby rfl (by decide) v p.length (numCells p) hs (hown.alloc _) ⟨w.heap.size, 0, none⟩ 1 1 [.int .i64 new] hx
    rfl ?_ ?_ (by unfold maxLen; omega) (by omega) (by simp; omega) ?_
  · intro j u hj
    match j, hj with
    | 0, hj => simp at hj; subst hj; simp [Addr.add]
  · intro u hu
    simp at hu
    subst hu
    rfl
  · intro v' w' h1 h2 _
    refine h v' w' ?_ ?_
    · unfold OwnN
      rw [numCells, List.map_append, List.length_append]
      exact h1
    · exact (hb.alloc (by omega) _).grown h2 (by simp; omega) (fun k hk => (World.ownsRow.lt hown k hk).1)
theorem OwnN.nil (B : Nat) (w : World) : OwnN B (.slice none 0 0) [] w := World.ownsRow_nil _ _ _ _
theorem OwnN.form' {B : Nat} {v : Value} {P : List Int} {w : World} (h : OwnN B v P w) : ∃ o cap, v = .slice o P.length cap ∧ P.length ≤ cap ∧ (P = [] ∧ o = none ∧ cap = 0 ∨ ∃ g, o = some ⟨g, 0, none⟩ ∧ B ≤ g ∧ g < w.heap.size ∧ ∀ (j : Nat) (hj : j < P.length), w.cell? ⟨g, j, none⟩ = some (.int .i64 P[j])) := by
  have hl := World.ownsRow.lt h
  have hh := h
  rcases h.2 with ⟨rfl, h0⟩ | ⟨g, cap, cur, rfl, hB, -, hc, -⟩
  · exact ⟨none, 0, by rw [h0], by omega, .inl ⟨List.length_eq_zero_iff.1 h0, rfl, rfl⟩⟩
  · refine ⟨_, cap, rfl, hc, .inr ⟨g, rfl, hB, (hl g rfl).2, fun j hj => ?_⟩⟩
    have := World.ownsRow.cells hh (g := g) rfl j (.int .i64 P[j]) (by simp [numCells, hj])
    rwa [add_off] at this
theorem OwnN.cut {B n cap : Nat} {o : Option Addr} {P : List Int} {w : World} (h : OwnN B (.slice o n cap) P w) (k : Nat) (hk : k ≤ P.length) : OwnN B (.slice o k cap) (P.take k) w := by
  obtain ⟨h1, h2⟩ := h
  have hl : (P.take k).length = k := by rw [List.length_take]; omega
  refine ⟨by unfold numCells; rw [List.length_map, Nat.mul_one], ?_⟩
  rcases h2 with ⟨h2, h3⟩ | ⟨g', cap', cur, e1, e2, e3, e4, e5, e6, e7⟩
  · cases h2
    obtain rfl : k = 0 := by omega
    exact .inl ⟨rfl, by simp⟩
  · cases e1
    refine .inr ⟨g', cap, cur, by rw [hl], e2, e3, by omega, e5, e6, ?_⟩
    rw [hl, Nat.mul_one]
    rw [Nat.mul_one] at e7
    have e10 := congrArg (List.take k) e7
    rw [List.take_take, Nat.min_eq_left hk] at e10
    rw [e10]
    unfold numCells
    rw [List.map_take]
/-- What lies from a place on, as a list that is handed on. -/
theorem ints_drop {B : Nat} {P : List Int} {o o' : Option Addr} {cap m : Nat} {w : World} (hm : m ≤ P.length) (hc : P.length ≤ cap) (h : P = [] ∧ o = none ∧ cap = 0 ∨ ∃ g, o = some ⟨g, 0, none⟩ ∧ g < B ∧ ∀ (j : Nat) (hj : j < P.length), w.cell? ⟨g, j, none⟩ = some (.int .i64 P[j])) (ho : o' = (if cap = m then o else o.map (·.add m))) : Ints B w o' (P.drop m) := by
  intro k hk
  rw [List.length_drop] at hk
  rcases h with ⟨rfl, -, -⟩ | ⟨g, rfl, hg, hcell⟩
  · simp at hk
  · rw [if_neg (by omega)] at ho
    refine ⟨⟨g, m, none⟩, by rw [ho, Option.map_some, add_off], hg, ?_⟩
    rw [show (⟨g, m, none⟩ : Addr).add k = ⟨g, m + k, none⟩ by simp [Addr.add], hcell (m + k) (by omega), List.getElem_drop]
end Go.Proofs.Ytnfolnngnmiieaa
