
/- Lists of numbers that were handed in; the law's helpers over them, and over texts. -/
import Derived.Test.YtfaeckaeaeadeaaGreatDoorTexts
namespace Go.Proofs.YtfaeckaeaeadeaaGreatDoor
open Go.RowKit Go.Lib Go.Maps
/-- The slice of numbers at o, in blocks below B. -/
def Ints (B : Nat) (w : World) (o : Option Addr) (ps : List Int) : Prop := ∀ k (h : k < ps.length), ∃ a, o = some a ∧ a.block < B ∧ w.cell? (a.add k) = some (.int .i64 ps[k])
set_option maxRecDepth 20000 in
theorem Ints.below {B : Nat} {w w' : World} {o : Option Addr} {ps : List Int} (h : Ints B w o ps) (hb : Below B w w') : Ints B w' o ps := by
  intro k hk
  obtain ⟨a, rfl, ha, hc⟩ := h k hk
  refine ⟨a, rfl, ha, ?_⟩
  rw [← hc]
  have e : (a.add k).block = a.block := by unfold Addr.add; split <;> rfl
  exact hb.cell (by rw [e]; exact ha)
set_option maxRecDepth 20000 in
theorem Ints.mono {B B' : Nat} {w : World} {o : Option Addr} {ps : List Int} (h : Ints B w o ps) (hB : B ≤ B') : Ints B' w o ps := by
  intro k hk
  obtain ⟨a, rfl, ha, hc⟩ := h k hk
  exact ⟨a, rfl, by omega, hc⟩
set_option maxRecDepth 20000 in
theorem Tryz.info2 : (Tryz.prog.info? 2).map (fun i => (i.zero, i.size, i.bytes)) = some (some (.int .i64 0), 1, 8) := by kernel_rfl
set_option maxRecDepth 20000 in
set_option maxHeartbeats 1000000 in
theorem lawToInts (o : Option Addr) (F : List Int) (cap : Nat) (w : World) (hF : Ints w.heap.size w o F) (hlen : F.length ≤ 1048576) :
    Calls Tryz.prog 28 #[.slice o F.length cap] w fun e w' => e = .returned (.slice (some ⟨w.heap.size, 0, none⟩) F.length F.length) ∧ Hid (Ints w'.heap.size w' (some ⟨w.heap.size, 0, none⟩) F) ∧ Below w.heap.size w w' := by
  obtain ⟨i0, hi, hy0, hy1, hy2⟩ := info_parts Tryz.info2
  have hmk := run_make (P := Tryz.prog) w 31 2 i0 _ Tryz.underlying31 hi hy0 .i64 .i64 F.length F.length (by omega) (Int.le_refl _) (by rw [hy2]; omega) (by omega)
  simp only [Int.toNat_natCast, hy1] at hmk
  have HF : Hid (Ints w.heap.size w o F) := hF
  clear hF
  have hown0 : (w.alloc (.cells (madeCells (Value.int .i64 0).cells (F.length * 1)) 2)).ownsRow w.heap.size 2 1 (.slice (some ⟨w.heap.size, 0, none⟩) F.length F.length) F.length (madeCells (Value.int .i64 0).cells (F.length * 1)).toList :=
    World.ownsRow_lit w _ F.length (Nat.le_refl _) (by unfold maxLen; omega) (size_madeCells _ _)
  have Hown0 : Hid (∃ xs, (w.alloc (.cells (madeCells (Value.int .i64 0).cells (F.length * 1)) 2)).ownsRow w.heap.size 2 1 (.slice (some ⟨w.heap.size, 0, none⟩) F.length F.length) F.length xs) := ⟨_, hown0⟩
  clear hown0
  go_enter Tryz.func28, Tryz.ntmps28
  go_wp2
  go_loopw [4] (fun i wr => ∃ (k : Nat) (xs : List Value), k ≤ F.length ∧ i = .int .i64 k ∧ wr.ownsRow w.heap.size 2 1 (.slice (some ⟨w.heap.size, 0, none⟩) F.length F.length) F.length xs ∧
      Hid (∀ j (h : j < F.length), j < k → xs[j]? = some (.int .i64 F[j])) ∧ Below w.heap.size w wr) (fun i _ => F.length - (Lib.intOf i).toNat)
  case atStart =>
    obtain ⟨xs, hx⟩ := Hown0.out
    exact ⟨0, xs, Nat.zero_le _, rfl, by rw [Nat.mul_one] at hx; exact hx, fun j h h0 => absurd h0 (Nat.not_lt_zero _), (Below.refl _ _).alloc (Nat.le_refl _) _⟩
  case round =>
    clear Hown0
    obtain ⟨k, xs, hk, rfl, hown, hall, hb⟩ := hrel
    by_cases hlt : k < F.length
    · obtain ⟨a, rfl, ha, hc0⟩ := (HF.out.below hb) k hlt
      generalize hf : F[k] = f at hc0
      have Hf : Hid (F[k] = f) := hf
      clear hf
      have hl : xs.length = F.length * 1 := hown.1
      have d0 : wr.cell? ⟨w.heap.size, k, none⟩ = some (xs[k]'(by omega)) := by rw [hown.cellAt k (by omega)]; exact List.getElem?_eq_getElem _
      have z0 := hown.frozenAt k
      generalize xs[k]'(by omega) = y0 at d0
      have hadd := add_off w.heap.size k
      go_wp2
      go_roundw
      case rel =>
        refine ⟨k + 1, xs.set k (.int .i64 f), by omega, by go_num, (hown.stored _ _).1, ?_, hb.setCell (Nat.le_refl _) _⟩
        intro j h hj
        by_cases hjk : j < k
        · rw [List.getElem?_set_ne (by omega)]
          exact hall.out j h hjk
        · have : j = k := by omega
          subst this
          rw [List.getElem?_set_self (by omega), Hf.out]
      case measure => simp [Lib.intOf]; omega
    · go_wp2
      go_ret
      refine ⟨rfl, ?_, hb⟩
      intro j hj
      exact ⟨_, rfl, (hown.lt w.heap.size rfl).2, hown.cells (g := w.heap.size) rfl _ _ (hall.out j hj (by omega))⟩
set_option maxRecDepth 20000 in
set_option maxHeartbeats 400000 in
theorem lawEqInts (a b : Addr) (F : List Int) (cap cap' : Nat) (w : World) (hF : Ints w.heap.size w (some a) F) (hG : Ints w.heap.size w (some b) F) (hlen : F.length ≤ 1048576) :
    Calls Tryz.prog 40 #[.slice (some a) F.length cap, .slice (some b) F.length cap'] w fun e w' => e = .returned (.bool true) ∧ Below w.heap.size w w' := by
  have HF : Hid (Ints w.heap.size w (some a) F) := hF
  have HG : Hid (Ints w.heap.size w (some b) F) := hG
  clear hF hG
  go_enter Tryz.func40, Tryz.ntmps40
  go_wp2
  go_loopw [5] (fun i wr => ∃ k : Nat, k ≤ F.length ∧ i = .int .i64 k ∧ Below w.heap.size w wr) (fun i _ => F.length - (Lib.intOf i).toNat)
  case atStart => exact ⟨0, Nat.zero_le _, rfl, Below.refl _ _⟩
  case round =>
    obtain ⟨k, hk, rfl, hb0⟩ := hrel
    by_cases hlt : k < F.length
    · obtain ⟨a', ea, ha, hc0⟩ := (HF.out.below hb0) k hlt
      obtain ⟨b', eb, hb, hd0⟩ := (HG.out.below hb0) k hlt
      cases ea
      cases eb
      generalize F[k] = f at hc0 hd0
      go_wp2
      go_region
      all_goals
        go_wp2
        go_roundw
        case rel => exact ⟨k + 1, by omega, by go_num, hb0.drew⟩
        case measure => simp [Lib.intOf]; omega
    · go_wp2
      go_ret
      exact ⟨rfl, hb0⟩
set_option maxRecDepth 20000 in
set_option maxHeartbeats 400000 in
theorem lawSzInts (o : Option Addr) (n cap m : Nat) (w : World) (hlen : n ≤ maxLen) (hm : m ≤ 1048576) :
    Calls Tryz.prog 19 #[.slice o n cap, .int .i64 m] w fun e w' => ∃ r : Int, e = .returned (.int .i64 r) ∧ (r = -1 ∨ (0 ≤ r ∧ r ≤ m ∧ n ≤ 1048576)) ∧ Below w.heap.size w w' := by
  unfold maxLen at hlen
  by_cases h0 : m < n
  · go_enter Tryz.func19, Tryz.ntmps19
    go_wp2
    go_ret
    exact ⟨-1, rfl, .inl rfl, Below.refl _ _⟩
  · go_enter Tryz.func19, Tryz.ntmps19
    go_wp2
    go_ret
    exact ⟨_, rfl, .inr ⟨by omega, by omega, by omega⟩, Below.refl _ _⟩
end Go.Proofs.YtfaeckaeaeadeaaGreatDoor
