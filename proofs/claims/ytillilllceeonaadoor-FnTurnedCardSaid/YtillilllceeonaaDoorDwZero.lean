
/- An append of a make to nothing. -/
import Derived.Test.YtillilllceeonaaDoorDwWalk
import Derived.Lib.AppendZeros
namespace Go.Proofs.YtillilllceeonaaDoor
open Go.RowKit Go.Lib Go.Maps
set_option maxRecDepth 20000 in
theorem zeroCells_at (z : Value) (n m j : Nat) (hj : j < n) : (Builtin.zeroCells #[z] n ++ Builtin.zeroCells #[z] m)[j]? = some z := by
  have h1 : (Builtin.zeroCells #[z] n).size = n := by rw [size_zeroCells]; simp
  rw [Array.getElem?_append_left (by omega)]
  rw [Array.getElem?_eq_getElem (by omega)]
  congr 1
  simp [Builtin.zeroCells, Nat.mod_one]
/-- What an append of n zero values to no slice leaves. -/
structure Zs (n : Nat) (z : Value) (e : TypeId) (o : Option Addr) (c : Nat) (W W2 : World) : Prop where
  cap : n ≤ c
  bel : Below W.heap.size W W2
  row : 0 < n → ∃ q zs, o = some ⟨q, 0, none⟩ ∧ W.heap.size ≤ q ∧ W2.heap[q]? = some (.cells zs e (0, 0)) ∧ ∀ j, j < n → zs[j]? = some z
set_option maxRecDepth 20000 in
theorem appZeros {P : Program} (W : World) (t tn ty e : TypeId) (i : TypeInfo) (z : Value) (kn : IntKind) (ht : P.underlying t = some (.slice e)) (htn : P.underlying tn = some (.int kn)) (hi : P.info? e = some i) (hz : i.zero = some z) (hs : i.size = 1) (hzc : z.cells = #[z]) (n : Nat) (hn : n ≤ 1000000) (hby : i.bytes ≤ 100) :
    ∃ o c W2, (Builtin.append_ #[t, tn] ty #[.slice none 0 0, .int .i64 n]).run P W = .ok (.slice o n c) W2 ∧ Zs n z e o c W W2 := by
  rcases Nat.eq_zero_or_pos n with rfl | h0
  · exact ⟨none, 0, W, run_append_no W t tn ty e i _ _ ht htn hi none 0 0 (Nat.le_refl _), Nat.le_refl _, Below.refl _ _, fun h => by omega⟩
  · have hmul : n * i.bytes ≤ 1000000 * 100 := Nat.mul_le_mul hn hby
    have h := run_append_nil_zeros (P := P) W t tn ty e i z .i64 kn ht htn hi hz n h0 (by omega) (by omega) (by omega)
    refine ⟨_, _, _, h, grownCap_ge W n 0 e, ?_, fun _ => ⟨W.heap.size, _, rfl, Nat.le_refl _, hp_alloc W.drew _, fun j hj => ?_⟩⟩
    · have := (Below.refl W.heap.size W).drew.alloc (Nat.le_refl _) (.cells (Builtin.zeroCells z.cells n ++ Builtin.zeroCells z.cells (grownCap W n 0 e - n)) e)
      exact this
    · rw [hzc]
      exact zeroCells_at z n _ j hj
set_option maxRecDepth 20000 in
/-- A block that is new since w changes besides. -/
theorem D2.far {g b q : Nat} {w w1 w2 : World} (h : D2 g b w w1) (h2 : D2 g q w1 w2) (hq : w.heap.size ≤ q) : D2 g b w w2 := ⟨h2.os.trans h.os, h2.tape.trans h.tape, h2.output.trans h.output, Nat.le_trans h.size h2.size, fun k hk h1 h3 => (h2.keep k (Nat.lt_of_lt_of_le hk h.size) h1 (by omega)).trans (h.keep k hk h1 h3)⟩
end Go.Proofs.YtillilllceeonaaDoor
