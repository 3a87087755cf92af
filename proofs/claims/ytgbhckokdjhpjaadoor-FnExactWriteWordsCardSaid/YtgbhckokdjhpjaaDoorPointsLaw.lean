
/- The law's helpers over lists of numbers. -/
import Derived.Test.YtgbhckokdjhpjaaDoorPoints
import Derived.Laws.OwnMore
import Derived.Laws.MakeOwn
namespace Go.Proofs.YtgbhckokdjhpjaaDoor
open Go.RowKit Go.Lib Go.Maps
theorem Tryd.info2 : (Tryd.prog.info? 2).map (fun i => (i.zero, i.size, i.bytes)) = some (some (.int .i64 0), 1, 8) := by kernel_rfl
set_option maxHeartbeats 1000000 in
theorem lawToInts (o : Option Addr) (F : List Int) (cap : Nat) (w : World) (hF : Ints w.heap.size w o F) (hlen : F.length ≤ 1048576) :
    Calls Tryd.prog 5 #[.slice o F.length cap] w fun e w' => e = .returned (.slice (some ⟨w.heap.size, 0, none⟩) F.length F.length) ∧ Hid (Ints w'.heap.size w' (some ⟨w.heap.size, 0, none⟩) F) ∧ Below w.heap.size w w' := by
  obtain ⟨i0, hi, hy0, hy1, hy2⟩ := info_parts Tryd.info2
  have hmk := run_make (P := Tryd.prog) w 22 2 i0 _ Tryd.underlying22 hi hy0 .i64 .i64 F.length F.length (by omega) (Int.le_refl _) (by rw [hy2]; omega) (by omega)
  simp only [Int.toNat_natCast, hy1] at hmk
  have HF : Hid (Ints w.heap.size w o F) := hF
  clear hF
  have hown0 : (w.alloc (.cells (madeCells (Value.int .i64 0).cells (F.length * 1)) 2)).ownsRow w.heap.size 2 1 (.slice (some ⟨w.heap.size, 0, none⟩) F.length F.length) F.length (madeCells (Value.int .i64 0).cells (F.length * 1)).toList :=
    World.ownsRow_lit w _ F.length (Nat.le_refl _) (by unfold maxLen; omega) (size_madeCells _ _)
  have Hown0 : Hid (∃ xs, (w.alloc (.cells (madeCells (Value.int .i64 0).cells (F.length * 1)) 2)).ownsRow w.heap.size 2 1 (.slice (some ⟨w.heap.size, 0, none⟩) F.length F.length) F.length xs) := ⟨_, hown0⟩
  clear hown0
  go_enter Tryd.func5, Tryd.ntmps5
  go_wp2
  go_loopw [4] (fun i wr => ∃ (k : Nat) (xs : List Value), k ≤ F.length ∧ i = .int .i64 k ∧ wr.ownsRow w.heap.size 2 1 (.slice (some ⟨w.heap.size, 0, none⟩) F.length F.length) F.length xs ∧
      Hid (∀ j (h : j < F.length), j < k → xs[j]? = some (.int .i64 F[j])) ∧ Below w.heap.size w wr) (fun i _ => F.length - (Lib.intOf i).toNat)
  case atStart =>
    obtain ⟨xs, hx⟩ := Hown0.out
    exact ⟨0, xs, Nat.zero_le _, rfl, by rw [Nat.mul_one] at hx; exact hx, fun j h h0 => absurd h0 (Nat.not_lt_zero _), (Below.refl _ _).alloc (Nat.le_refl _) _⟩
  case round =>
    clear Hown0
    obtain ⟨k, xs, hk, rfl, hown, hall, hb⟩ := hrel
    by_cases hlt : k < F.length
    · obtain ⟨a, rfl, ha, hc0⟩ := (HF.out.below hb) k hlt
      generalize hf : F[k] = f at hc0
      have Hf : Hid (F[k] = f) := hf
      clear hf
      have hl : xs.length = F.length * 1 := hown.1
      have d0 : wr.cell? ⟨w.heap.size, k, none⟩ = some (xs[k]'(by omega)) := by rw [hown.cellAt k (by omega)]; exact List.getElem?_eq_getElem _
      have z0 := hown.frozenAt k
      generalize xs[k]'(by omega) = y0 at d0
      have hadd := add_off w.heap.size k
      go_wp2
      go_roundw
      case rel =>
        refine ⟨k + 1, xs.set k (.int .i64 f), by omega, by go_num, (hown.stored _ _).1, ?_, hb.setCell (Nat.le_refl _) _⟩
        intro j h hj
        by_cases hjk : j < k
        · rw [List.getElem?_set_ne (by omega)]
          exact hall.out j h hjk
        · have : j = k := by omega
          subst this
          rw [List.getElem?_set_self (by omega), Hf.out]
      case measure => simp [Lib.intOf]; omega
    · go_wp2
      go_ret
      refine ⟨rfl, ?_, hb⟩
      intro j hj
      exact ⟨_, rfl, (hown.lt w.heap.size rfl).2, hown.cells (g := w.heap.size) rfl _ _ (hall.out j hj (by omega))⟩
set_option maxHeartbeats 400000 in
theorem lawEqInts (a b : Addr) (F : List Int) (cap cap' : Nat) (w : World) (hF : Ints w.heap.size w (some a) F) (hG : Ints w.heap.size w (some b) F) (hlen : F.length ≤ 1048576) :
    Calls Tryd.prog 7 #[.slice (some a) F.length cap, .slice (some b) F.length cap'] w fun e w' => e = .returned (.bool true) ∧ Below w.heap.size w w' := by
  have HF : Hid (Ints w.heap.size w (some a) F) := hF
  have HG : Hid (Ints w.heap.size w (some b) F) := hG
  clear hF hG
  go_enter Tryd.func7, Tryd.ntmps7
  go_wp2
  go_loopw [5] (fun i wr => ∃ k : Nat, k ≤ F.length ∧ i = .int .i64 k ∧ Below w.heap.size w wr) (fun i _ => F.length - (Lib.intOf i).toNat)
  case atStart => exact ⟨0, Nat.zero_le _, rfl, Below.refl _ _⟩
  case round =>
    obtain ⟨k, hk, rfl, hb0⟩ := hrel
    by_cases hlt : k < F.length
    · obtain ⟨a', ea, ha, hc0⟩ := (HF.out.below hb0) k hlt
      obtain ⟨b', eb, hb, hd0⟩ := (HG.out.below hb0) k hlt
      cases ea
      cases eb
      generalize F[k] = f at hc0 hd0
      go_wp2
      go_region
      all_goals
        go_wp2
        go_roundw
        case rel => exact ⟨k + 1, by omega, by go_num, hb0.drew⟩
        case measure => simp [Lib.intOf]; omega
    · go_wp2
      go_ret
      exact ⟨rfl, hb0⟩
end Go.Proofs.YtgbhckokdjhpjaaDoor
