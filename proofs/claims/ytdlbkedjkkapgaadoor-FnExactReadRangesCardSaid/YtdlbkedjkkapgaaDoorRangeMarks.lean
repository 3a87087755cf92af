
/- Lists of Range that a call has made: held as the law's lists, marked, the marks asked for. -/
import Derived.Test.YtdlbkedjkkapgaaDoorSpecReadRanges
namespace Go.Proofs.YtdlbkedjkkapgaaDoor
open Go.RowKit Go.Lib Go.Maps
theorem rgCells_at (P : List GRange) : ∀ (i : Nat) (h : i < P.length), (rgCells P)[i * 2]? = some (.int .i64 P[i].fromF) ∧ (rgCells P)[i * 2 + 1]? = some (.int .i64 P[i].toF) := by
  induction P with
  | nil => intro i h; exact absurd h (Nat.not_lt_zero _)
  | cons r t ih =>
    intro i h
    have e : rgCells (r :: t) = .int .i64 r.fromF :: .int .i64 r.toF :: rgCells t := rfl
    rw [e]
    cases i with
    | zero => exact ⟨rfl, rfl⟩
    | succ i =>
      have := ih i (by simpa using h)
      rw [show (i + 1) * 2 = i * 2 + 1 + 1 by omega]
      simpa using this
theorem rgCells_set (P : List GRange) : ∀ (i : Nat) (r : GRange), i < P.length → rgCells (P.set i r) = ((rgCells P).set (i * 2) (.int .i64 r.fromF)).set (i * 2 + 1) (.int .i64 r.toF) := by
  induction P with
  | nil => intro i r h; exact absurd h (Nat.not_lt_zero _)
  | cons x t ih =>
    intro i r h
    have e : ∀ (z : GRange) (l : List GRange), rgCells (z :: l) = .int .i64 z.fromF :: .int .i64 z.toF :: rgCells l := fun _ _ => rfl
    cases i with
    | zero => rw [List.set_cons_zero, e, e]; rfl
    | succ i =>
      rw [List.set_cons_succ, e, e, ih i r (by simpa using h), show (i + 1) * 2 = i * 2 + 1 + 1 by omega]
      rfl
theorem OwnR.gl {B : Nat} {o : Option Addr} {cap : Nat} {P : List GRange} {w : World} (h : OwnR B (.slice o P.length cap) P w) : GRangesL B w.heap.size w o P := by
  intro i hi
  have hl := World.ownsRow.lt h
  rcases h.2 with ⟨h1, h0⟩ | ⟨g, cap', cur, h1, hB, -⟩
  · omega
  · simp only [Value.slice.injEq] at h1
    obtain ⟨rfl, -⟩ := h1
    refine ⟨_, rfl, hB, (hl g rfl).2, ?_⟩
    have d0 := World.ownsRow.cells h (g := g) rfl (i * 2) _ (rgCells_at P i hi).1
    have d1 := World.ownsRow.cells h (g := g) rfl (i * 2 + 1) _ (rgCells_at P i hi).2
    rw [add_off] at d0 d1 ⊢
    exact ⟨d0, d1⟩
theorem OwnR.stay {B : Nat} {v : Value} {P : List GRange} {w w' : World} (h : OwnR B v P w) (hk : ∀ k, v.ownBlock = some k → w'.heap[k]? = w.heap[k]?) : OwnR B v P w' := by
  refine ⟨h.1, ?_⟩
  rcases h.2 with hn | ⟨g, cap, cur, rfl, hb, hgg, rest⟩
  · exact .inl hn
  · exact .inr ⟨g, cap, cur, rfl, hb, (hk g rfl).trans hgg, rest⟩
/-- The ranges of two numbers each, from k on. -/
def rgFrom (k n : Nat) : List GRange := (List.range n).map fun j => ⟨((k + 2 * j : Nat) : Int), ((k + 2 * j + 1 : Nat) : Int)⟩
theorem rgFrom_len (k n : Nat) : (rgFrom k n).length = n := by simp [rgFrom]
theorem rgFrom_get (k n j : Nat) (h : j < (rgFrom k n).length) : (rgFrom k n)[j] = ⟨((k + 2 * j : Nat) : Int), ((k + 2 * j + 1 : Nat) : Int)⟩ := by simp [rgFrom]
theorem rgFrom_set (k : Nat) (P : List GRange) (i : Nat) (h : i < P.length) : (rgFrom k i ++ P.drop i).set i ⟨((k + 2 * i : Nat) : Int), ((k + 2 * i + 1 : Nat) : Int)⟩ = rgFrom k (i + 1) ++ P.drop (i + 1) := by
  rw [List.drop_eq_getElem_cons h]
  have e : rgFrom k (i + 1) = rgFrom k i ++ [⟨((k + 2 * i : Nat) : Int), ((k + 2 * i + 1 : Nat) : Int)⟩] := by simp [rgFrom, List.range_succ]
  rw [e, List.set_append, if_neg (by rw [rgFrom_len]; omega), rgFrom_len, Nat.sub_self, List.set_cons_zero, List.append_assoc]
  rfl
set_option maxHeartbeats 2000000 in
theorem lawMarkRanges (o : Option Addr) (P : List GRange) (cap B k0 : Nat) (w : World) (hl : P.length ≤ 1048576) (hk0 : k0 ≤ 1000000000000) (h : OwnR B (.slice o P.length cap) P w) :
    Calls Tryd.prog 7 #[.slice o P.length cap, .int .i64 k0] w fun e w' => e = .returned (.int .i64 ((k0 + 2 * P.length : Nat) : Int)) ∧ Hid (OwnR B (.slice o P.length cap) (rgFrom k0 P.length) w') ∧ Hid (w.grownBy w' (Value.slice o P.length cap).ownBlock) := by
  have H := mkHid h
  clear h
  go_enter Tryd.func7, Tryd.ntmps7
  go_wp2
  go_loopw [1, 5] (fun m i wr => ∃ k q : Nat, k ≤ P.length ∧ i = .int .i64 k ∧ m = .int .i64 (q : Int) ∧ Hid (q = k0 + 2 * k) ∧ Hid (OwnR B (.slice o P.length cap) (rgFrom k0 k ++ P.drop k) wr) ∧ Hid (w.grownBy wr (Value.slice o P.length cap).ownBlock)) (fun _ i _ => P.length - (Lib.intOf i).toNat)
  case atStart => exact ⟨0, k0, Nat.zero_le _, rfl, rfl, rfl, H, ⟨rfl, rfl, rfl, Nat.le_refl _, fun _ _ _ => rfl⟩⟩
  case round =>
    clear H
    obtain ⟨k, q, hk, rfl, rfl, hq, hown, hg⟩ := hrel
    have hqb : q ≤ 2000000000000 := by have := hq.out; omega
    by_cases hlt : k < P.length
    · have hlen : (rgFrom k0 k ++ P.drop k).length = P.length := by simp [rgFrom_len]; omega
      have hset := mkHid (rgFrom_set k0 P k hlt)
      rw [← hq.out] at hset
      generalize rgFrom k0 k ++ P.drop k = cur at *
      have hown' := hown.out
      unfold OwnR at hown'
      rw [hlen] at hown'
      rcases hown'.2 with ⟨h1, h0⟩ | ⟨g, cap', cr, h1, hB, -⟩
      · omega
      · simp only [Value.slice.injEq] at h1
        obtain ⟨rfl, -, rfl⟩ := h1
        have hat := rgCells_at cur k (by omega)
        have d0 : wr.cell? ⟨g, k * 2, none⟩ = some (.int .i64 (cur[k]'(by omega)).fromF) := by rw [World.ownsRow.cellAt hown' (k * 2) (by omega)]; exact hat.1
        have z0 := World.ownsRow.frozenAt hown' (k * 2)
        have hst := World.ownsRow.stored hown' (k * 2) (.int .i64 (q : Int))
        obtain ⟨w1, hw1⟩ : ∃ w1, w1 = wr.setCell ⟨g, k * 2, none⟩ (.int .i64 (q : Int)) := ⟨_, rfl⟩
        rw [← hw1] at hst
        have d1 : w1.cell? ⟨g, k * 2 + 1, none⟩ = some (.int .i64 (cur[k]'(by omega)).toF) := by
          rw [World.ownsRow.cellAt hst.1 (k * 2 + 1) (by omega), List.getElem?_set_ne (by omega)]; exact hat.2
        have z1 := World.ownsRow.frozenAt hst.1 (k * 2 + 1)
        have hst2 := World.ownsRow.stored hst.1 (k * 2 + 1) (.int .i64 ((q : Int) + 1))
        have hn : Hid (OwnR B (.slice (some ⟨g, 0, none⟩) P.length cap) (rgFrom k0 (k + 1) ++ P.drop (k + 1)) (w1.setCell ⟨g, k * 2 + 1, none⟩ (.int .i64 ((q : Int) + 1)))) := by
          have hsx := hset.out
          rw [Int.natCast_add q 1] at hsx
          rw [← hsx]
          show World.ownsRow _ _ _ _ _ _ _
          rw [List.length_set, hlen, rgCells_set _ _ _ (by omega)]
          exact hst2.1
        have hg2 : Hid (w.grownBy (w1.setCell ⟨g, k * 2 + 1, none⟩ (.int .i64 ((q : Int) + 1))) (Value.slice (some ⟨g, 0, none⟩) P.length cap).ownBlock) := grG_trans (grG_trans hg.out hst.2) hst2.2
        have hadd := add_off g (k * 2)
        generalize (cur[k]'(by omega)).fromF = y0 at d0
        generalize (cur[k]'(by omega)).toF = y1 at d1
        replace hB := mkHid hB
        replace hlen := mkHid hlen
        have HW := mkHid hw1
        clear hown' hst hst2 hset hown hg hat hw1
        go_wp2_with (first | (rw [← HW.out]; clear HW) | fail)
        go_roundw
        case rel => exact ⟨k + 1, q + 2, by omega, by go_num, by go_num, by show _ = _; have := hq.out; omega, hn, hg2⟩
        case measure => simp [Lib.intOf]; omega
    · have hkl : Hid (k = P.length) := Nat.le_antisymm hk (by omega)
      have hn : Hid (OwnR B (.slice o P.length cap) (rgFrom k0 P.length) wr) := by
        have := hown.out
        rw [hkl.out, List.drop_length, List.append_nil] at this
        exact this
      clear hown
      go_wp2
      go_ret
      exact ⟨by rw [hq.out, hkl.out]; rfl, hn, hg⟩
set_option maxHeartbeats 1000000 in
theorem lawHeldRanges (o : Option Addr) (n cap lo k0 : Nat) (w : World) (hl : n ≤ 1048576) (hk0 : k0 ≤ 1000000000000) (h : GRangesL lo w.heap.size w o (rgFrom k0 n)) :
    Calls Tryd.prog 8 #[.slice o n cap, .int .i64 k0] w fun e w' => e = .returned (.int .i64 ((k0 + 2 * n : Nat) : Int)) ∧ w = w' := by
  have H : Hid (∀ i, i < n → ∃ a, o = some a ∧ GRangeAt w (a.add (i * 2)) ⟨((k0 + 2 * i : Nat) : Int), ((k0 + 2 * i + 1 : Nat) : Int)⟩) := show ∀ i, _ from fun i hi => by
    obtain ⟨a, h1, -, -, h2⟩ := h i (by rw [rgFrom_len]; exact hi)
    rw [rgFrom_get] at h2
    exact ⟨a, h1, h2⟩
  clear h
  go_enter Tryd.func8, Tryd.ntmps8
  go_wp2
  go_loopw [1, 5] (fun m i wr => ∃ k q : Nat, k ≤ n ∧ i = .int .i64 k ∧ m = .int .i64 (q : Int) ∧ Hid (q = k0 + 2 * k) ∧ wr = w) (fun _ i _ => n - (Lib.intOf i).toNat)
  case atStart => exact ⟨0, k0, Nat.zero_le _, rfl, rfl, rfl, rfl⟩
  case round =>
    obtain ⟨k, q, hk, rfl, rfl, hq, hWr⟩ := hrel
    have hWr' : wr = w := hWr
    clear hWr
    subst hWr'
    have hqb : q ≤ 2000000000000 := by have := hq.out; omega
    by_cases hlt : k < n
    · obtain ⟨a, rfl, hA⟩ := H.out k hlt
      rw [← hq.out] at hA
      have c0 := hA.c0
      have c1 := hA.c1
      simp only [Int.natCast_add] at c1
      clear hA
      have z1 : ((q : Int) != (q : Int)) = false := by simp
      have z2 : ((q : Int) + 1 != (q : Int) + 1) = false := by simp
      go_wp2
      go_roundw
      case rel => exact ⟨k + 1, q + 2, by omega, by go_num, by go_num, by show _ = _; have := hq.out; omega, trivial⟩
      case measure => simp [Lib.intOf]; omega
    · have hkl : Hid (k = n) := Nat.le_antisymm hk (by omega)
      go_wp2
      go_ret
      exact ⟨by rw [hq.out, hkl.out]; rfl, rfl⟩
end Go.Proofs.YtdlbkedjkkapgaaDoor
