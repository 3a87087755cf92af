
/- Lists of numbers (int64) that a call has made: appended to, marked, the marks asked for. -/
import Derived.Test.YtkklaiphpccldaaGenBase
namespace Go.Proofs.Ytkklaiphpccldaa
open Go.RowKit Go.Lib Go.Maps
def numCells (P : List Int) : List Value := P.map (.int .i64)
/-- The slice v, whose array is among the blocks from B on, holds just the numbers P. -/
def OwnN (B : Nat) (v : Value) (P : List Int) (w : World) : Prop := w.ownsRow B 2 1 v P.length (numCells P)
theorem OwnN.nil (B : Nat) (w : World) : OwnN B (.slice none 0 0) [] w := World.ownsRow_nil w B 2 1
theorem OwnN.shape {B : Nat} {v : Value} {P : List Int} {w : World} (h : OwnN B v P w) : ∃ o cap, v = .slice o P.length cap := by
  rcases h.2 with ⟨rfl, h0⟩ | ⟨g, cap, cur, rfl, -⟩
  · exact ⟨none, 0, by rw [h0]⟩
  · exact ⟨_, cap, rfl⟩
theorem OwnN.inL {B : Nat} {o : Option Addr} {cap : Nat} {P : List Int} {w : World} (h : OwnN B (.slice o P.length cap) P w) : InL B w.heap.size w o P := by
  intro i hi
  have hl := World.ownsRow.lt h
  rcases h.2 with ⟨h1, h0⟩ | ⟨g, cap', cur, h1, hB, -⟩
  · omega
  · simp only [Value.slice.injEq] at h1
    obtain ⟨rfl, -⟩ := h1
    exact ⟨_, rfl, hB, (hl g rfl).2, World.ownsRow.cells h (g := g) rfl i _ (by simp [numCells, hi])⟩
theorem OwnN.keep {B : Nat} {v : Value} {P : List Int} {w w' : World} {row : Option Nat} (h : OwnN B v P w) (hg : w.grownBy w' row) (hne : v.ownBlock = none ∨ v.ownBlock ≠ row) : OwnN B v P w' := World.ownsRow.kept h hg hne
theorem OwnN.below {B : Nat} {v : Value} {P : List Int} {w w' : World} (h : OwnN B v P w) (hb : Below w.heap.size w w') : OwnN B v P w' := World.ownsRow.kept h (row := none) ⟨hb.os, hb.tape, hb.output, hb.size, fun k hk _ => hb.block k hk⟩ (by
  cases hv : v.ownBlock with
  | none => exact .inl rfl
  | some k => exact .inr (by simp))
/-- The numbers from k on. -/
def numsFrom (k n : Nat) : List Int := (List.range n).map fun j => ((k + j : Nat) : Int)
theorem nums_len (k n : Nat) : (numsFrom k n).length = n := by simp [numsFrom]
theorem nums_get (k n j : Nat) (h : j < (numsFrom k n).length) : (numsFrom k n)[j] = ((k + j : Nat) : Int) := by simp [numsFrom]
theorem nums_set (k : Nat) (P : List Int) (i : Nat) (h : i < P.length) : (numsFrom k i ++ P.drop i).set i ((k + i : Nat) : Int) = numsFrom k (i + 1) ++ P.drop (i + 1) := by
  rw [List.drop_eq_getElem_cons h]
  have e : numsFrom k (i + 1) = numsFrom k i ++ [((k + i : Nat) : Int)] := by simp [numsFrom, List.range_succ]
  rw [e, List.set_append, if_neg (by rw [nums_len]; omega), nums_len, Nat.sub_self, List.set_cons_zero, List.append_assoc]
  rfl
set_option maxHeartbeats 1000000 in
theorem lawMarkInts (o : Option Addr) (P : List Int) (cap B k0 : Nat) (w : World) (hl : P.length ≤ 1048576) (hk0 : k0 ≤ 1000000000000) (h : OwnN B (.slice o P.length cap) P w) :
    Calls Try.prog 22 #[.slice o P.length cap, .int .i64 k0] w fun e w' => e = .returned (.int .i64 ((k0 + P.length : Nat) : Int)) ∧ Hid (OwnN B (.slice o P.length cap) (numsFrom k0 P.length) w') ∧ Hid (w.grownBy w' (Value.slice o P.length cap).ownBlock) := by
  have H := mkHid h
  clear h
  go_enter Try.func22, Try.ntmps22
  go_wp2
  go_loopw [1, 5] (fun m i wr => ∃ k q : Nat, k ≤ P.length ∧ i = .int .i64 k ∧ m = .int .i64 (q : Int) ∧ Hid (q = k0 + k) ∧ Hid (OwnN B (.slice o P.length cap) (numsFrom k0 k ++ P.drop k) wr) ∧ Hid (w.grownBy wr (Value.slice o P.length cap).ownBlock)) (fun _ i _ => P.length - (Lib.intOf i).toNat)
  case atStart => exact ⟨0, k0, Nat.zero_le _, rfl, rfl, rfl, H, ⟨rfl, rfl, rfl, Nat.le_refl _, fun _ _ _ => rfl⟩⟩
  case round =>
    clear H
    obtain ⟨k, q, hk, rfl, rfl, hq, hown, hg⟩ := hrel
    have hqb : q ≤ 2000000000000 := by have := hq.out; omega
    by_cases hlt : k < P.length
    · have hlen : (numsFrom k0 k ++ P.drop k).length = P.length := by simp [nums_len]; omega
      have hset := mkHid (nums_set k0 P k hlt)
      rw [← hq.out] at hset
      generalize numsFrom k0 k ++ P.drop k = cur at *
      have hown' := hown.out
      unfold OwnN at hown'
      rw [hlen] at hown'
      rcases hown'.2 with ⟨h1, h0⟩ | ⟨g, cap', cr, h1, hB, -⟩
      · omega
      · simp only [Value.slice.injEq] at h1
        obtain ⟨rfl, -, rfl⟩ := h1
        have hcl : k < (numCells cur).length := by simp [numCells]; omega
        have d0 : wr.cell? ⟨g, k, none⟩ = some ((numCells cur)[k]) := by rw [World.ownsRow.cellAt hown' k (by omega)]; exact List.getElem?_eq_getElem hcl
        have z0 := World.ownsRow.frozenAt hown' k
        have hst := World.ownsRow.stored hown' k (.int .i64 (q : Int))
        have hn : Hid (OwnN B (.slice (some ⟨g, 0, none⟩) P.length cap) (numsFrom k0 (k + 1) ++ P.drop (k + 1)) (wr.setCell ⟨g, k, none⟩ (.int .i64 (q : Int)))) := by
          rw [← hset.out]
          show World.ownsRow _ _ _ _ _ _ _
          rw [List.length_set, hlen, numCells, List.map_set]
          exact hst.1
        have hg2 : Hid (w.grownBy (wr.setCell ⟨g, k, none⟩ (.int .i64 (q : Int))) (Value.slice (some ⟨g, 0, none⟩) P.length cap).ownBlock) := grG_trans hg.out hst.2
        have hadd := add_off g k
        generalize (numCells cur)[k] = y0 at d0
        replace hB := mkHid hB
        replace hlen := mkHid hlen
        clear hown' hst hset hown hg hcl
        go_wp2
        go_roundw
        case rel => exact ⟨k + 1, q + 1, by omega, by go_num, by go_num, by show _ = _; have := hq.out; omega, hn, hg2⟩
        case measure => simp [Lib.intOf]; omega
    · have hkl : Hid (k = P.length) := Nat.le_antisymm hk (by omega)
      have hn : Hid (OwnN B (.slice o P.length cap) (numsFrom k0 P.length) wr) := by
        have := hown.out
        rw [hkl.out, List.drop_length, List.append_nil] at this
        exact this
      clear hown
      go_wp2
      go_ret
      exact ⟨by rw [hq.out, hkl.out]; rfl, hn, hg⟩
set_option maxHeartbeats 1000000 in
theorem lawHeldInts (o : Option Addr) (n cap lo k0 : Nat) (w : World) (hl : n ≤ 1048576) (hk0 : k0 ≤ 1000000000000) (h : InL lo w.heap.size w o (numsFrom k0 n)) :
    Calls Try.prog 23 #[.slice o n cap, .int .i64 k0] w fun e w' => e = .returned (.int .i64 ((k0 + n : Nat) : Int)) ∧ w = w' := by
  have H : Hid (∀ i, i < n → ∃ a, o = some a ∧ w.cell? (a.add i) = some (.int .i64 ((k0 + i : Nat) : Int))) := show ∀ i, _ from fun i hi => by
    obtain ⟨a, h1, -, -, h2⟩ := h i (by rw [nums_len]; exact hi)
    exact ⟨a, h1, by rw [h2, nums_get]⟩
  clear h
  go_enter Try.func23, Try.ntmps23
  go_wp2
  go_loopw [1, 5] (fun m i wr => ∃ k q : Nat, k ≤ n ∧ i = .int .i64 k ∧ m = .int .i64 (q : Int) ∧ Hid (q = k0 + k) ∧ wr = w) (fun _ i _ => n - (Lib.intOf i).toNat)
  case atStart => exact ⟨0, k0, Nat.zero_le _, rfl, rfl, rfl, rfl⟩
  case round =>
    obtain ⟨k, q, hk, rfl, rfl, hq, hWr⟩ := hrel
    have hWr' : wr = w := hWr
    clear hWr
    subst hWr'
    have hqb : q ≤ 2000000000000 := by have := hq.out; omega
    by_cases hlt : k < n
    · obtain ⟨a, rfl, c0⟩ := H.out k hlt
      rw [← hq.out] at c0
      have z1 : ((q : Int) != (q : Int)) = false := by simp
      go_wp2
      go_roundw
      case rel => exact ⟨k + 1, q + 1, by omega, by go_num, by go_num, by show _ = _; have := hq.out; omega, trivial⟩
      case measure => simp [Lib.intOf]; omega
    · have hkl : Hid (k = n) := Nat.le_antisymm hk (by omega)
      go_wp2
      go_ret
      exact ⟨by rw [hq.out, hkl.out]; rfl, rfl⟩
end Go.Proofs.Ytkklaiphpccldaa
