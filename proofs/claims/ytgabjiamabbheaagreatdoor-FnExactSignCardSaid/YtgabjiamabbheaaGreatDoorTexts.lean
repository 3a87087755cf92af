
/- Lists of texts that were handed in; the law's helpers over them. -/
import Derived.Test.YtgabjiamabbheaaGreatDoorBase
import Derived.Laws.OwnMore
import Derived.Laws.MakeOwn
import Derived.Deep.RegionWith
namespace Go.Proofs.YtgabjiamabbheaaGreatDoor
open Go.RowKit Go.Lib Go.Maps
def Tx (B : Nat) (w : World) (o : Option Addr) (ps : List ByteArray) : Prop := ∀ k (h : k < ps.length), ∃ a, o = some a ∧ a.block < B ∧ w.cell? (a.add k) = some (.string ps[k])
set_option maxRecDepth 20000 in
theorem mkHid {p : Prop} (h : p) : Hid p := h
set_option maxRecDepth 20000 in
theorem Tx.below {B : Nat} {w w' : World} {o : Option Addr} {ps : List ByteArray} (h : Tx B w o ps) (hb : Below B w w') : Tx B w' o ps := by
  intro k hk
  obtain ⟨a, rfl, ha, hc⟩ := h k hk
  refine ⟨a, rfl, ha, ?_⟩
  rw [← hc]
  have e : (a.add k).block = a.block := by unfold Addr.add; split <;> rfl
  exact hb.cell (by rw [e]; exact ha)
set_option maxRecDepth 20000 in
theorem Tx.mono {B B' : Nat} {w : World} {o : Option Addr} {ps : List ByteArray} (h : Tx B w o ps) (hB : B ≤ B') : Tx B' w o ps := by
  intro k hk
  obtain ⟨a, rfl, ha, hc⟩ := h k hk
  exact ⟨a, rfl, by omega, hc⟩
set_option maxRecDepth 20000 in
theorem Tryz.info9 : (Tryz.prog.info? 9).map (fun i => (i.zero, i.size, i.bytes)) = some (some (.string ByteArray.empty), 1, 16) := by kernel_rfl
set_option maxRecDepth 20000 in
set_option maxHeartbeats 1000000 in
theorem lawToTexts (o : Option Addr) (F : List ByteArray) (cap : Nat) (w : World) (hF : Tx w.heap.size w o F) (hlen : F.length ≤ 1048576) :
    Calls Tryz.prog 20 #[.slice o F.length cap] w fun e w' => e = .returned (.slice (some ⟨w.heap.size, 0, none⟩) F.length F.length) ∧ Hid (Tx w'.heap.size w' (some ⟨w.heap.size, 0, none⟩) F) ∧ Below w.heap.size w w' := by
  obtain ⟨i0, hi, hy0, hy1, hy2⟩ := info_parts Tryz.info9
  have hmk := run_make (P := Tryz.prog) w 24 9 i0 _ Tryz.underlying24 hi hy0 .i64 .i64 F.length F.length (by omega) (Int.le_refl _) (by rw [hy2]; omega) (by omega)
  simp only [Int.toNat_natCast, hy1] at hmk
  have HF : Hid (Tx w.heap.size w o F) := hF
  clear hF
  have hown0 : (w.alloc (.cells (madeCells (Value.string ByteArray.empty).cells (F.length * 1)) 9)).ownsRow w.heap.size 9 1 (.slice (some ⟨w.heap.size, 0, none⟩) F.length F.length) F.length (madeCells (Value.string ByteArray.empty).cells (F.length * 1)).toList :=
    World.ownsRow_lit w _ F.length (Nat.le_refl _) (by unfold maxLen; omega) (size_madeCells _ _)
  have Hown0 : Hid (∃ xs, (w.alloc (.cells (madeCells (Value.string ByteArray.empty).cells (F.length * 1)) 9)).ownsRow w.heap.size 9 1 (.slice (some ⟨w.heap.size, 0, none⟩) F.length F.length) F.length xs) := ⟨_, hown0⟩
  clear hown0
  go_enter Tryz.func20, Tryz.ntmps20
  go_wp2
  go_loopw [4] (fun i wr => ∃ (k : Nat) (xs : List Value), k ≤ F.length ∧ i = .int .i64 k ∧ wr.ownsRow w.heap.size 9 1 (.slice (some ⟨w.heap.size, 0, none⟩) F.length F.length) F.length xs ∧
      Hid (∀ j (h : j < F.length), j < k → xs[j]? = some (.string F[j])) ∧ Below w.heap.size w wr) (fun i _ => F.length - (Lib.intOf i).toNat)
  case atStart =>
    obtain ⟨xs, hx⟩ := Hown0.out
    exact ⟨0, xs, Nat.zero_le _, rfl, by rw [Nat.mul_one] at hx; exact hx, fun j h h0 => absurd h0 (Nat.not_lt_zero _), (Below.refl _ _).alloc (Nat.le_refl _) _⟩
  case round =>
    clear Hown0
    obtain ⟨k, xs, hk, rfl, hown, hall, hb⟩ := hrel
    by_cases hlt : k < F.length
    · obtain ⟨a, rfl, ha, hc0⟩ := (HF.out.below hb) k hlt
      generalize hf : F[k] = f at hc0
      have Hf : Hid (F[k] = f) := hf
      clear hf
      have hl : xs.length = F.length * 1 := hown.1
      have d0 : wr.cell? ⟨w.heap.size, k, none⟩ = some (xs[k]'(by omega)) := by rw [hown.cellAt k (by omega)]; exact List.getElem?_eq_getElem _
      have z0 := hown.frozenAt k
      generalize xs[k]'(by omega) = y0 at d0
      have hadd := add_off w.heap.size k
      go_wp2
      go_roundw
      case rel =>
        refine ⟨k + 1, xs.set k (.string f), by omega, by go_num, (hown.stored _ _).1, ?_, hb.setCell (Nat.le_refl _) _⟩
        intro j h hj
        by_cases hjk : j < k
        · rw [List.getElem?_set_ne (by omega)]
          exact hall.out j h hjk
        · have : j = k := by omega
          subst this
          rw [List.getElem?_set_self (by omega), Hf.out]
      case measure => simp [Lib.intOf]; omega
    · go_wp2
      go_ret
      refine ⟨rfl, ?_, hb⟩
      intro j hj
      exact ⟨_, rfl, (hown.lt w.heap.size rfl).2, hown.cells (g := w.heap.size) rfl _ _ (hall.out j hj (by omega))⟩
set_option maxRecDepth 20000 in
set_option maxHeartbeats 400000 in
theorem lawEqTexts (a b : Addr) (F : List ByteArray) (cap cap' : Nat) (w : World) (hF : Tx w.heap.size w (some a) F) (hG : Tx w.heap.size w (some b) F) (hlen : F.length ≤ 1048576) :
    Calls Tryz.prog 30 #[.slice (some a) F.length cap, .slice (some b) F.length cap'] w fun e w' => e = .returned (.bool true) ∧ Below w.heap.size w w' := by
  have HF : Hid (Tx w.heap.size w (some a) F) := hF
  have HG : Hid (Tx w.heap.size w (some b) F) := hG
  clear hF hG
  go_enter Tryz.func30, Tryz.ntmps30
  go_wp2
  go_loopw [5] (fun i wr => ∃ k : Nat, k ≤ F.length ∧ i = .int .i64 k ∧ Below w.heap.size w wr) (fun i _ => F.length - (Lib.intOf i).toNat)
  case atStart => exact ⟨0, Nat.zero_le _, rfl, Below.refl _ _⟩
  case round =>
    obtain ⟨k, hk, rfl, hb0⟩ := hrel
    by_cases hlt : k < F.length
    · obtain ⟨a', ea, ha, hc0⟩ := (HF.out.below hb0) k hlt
      obtain ⟨b', eb, hb, hd0⟩ := (HG.out.below hb0) k hlt
      cases ea
      cases eb
      generalize F[k] = f at hc0 hd0
      go_wp2
      go_region
      all_goals
        go_wp2
        go_roundw
        case rel => exact ⟨k + 1, by omega, by go_num, hb0.drew⟩
        case measure => simp [Lib.intOf]; omega
    · go_wp2
      go_ret
      exact ⟨rfl, hb0⟩
def szT : List ByteArray → Nat
  | [] => 0
  | t :: r => t.size + szT r
set_option maxRecDepth 20000 in
theorem szT_drop (F : List ByteArray) (k : Nat) (h : k < F.length) : szT (F.drop k) = F[k].size + szT (F.drop (k + 1)) := by
  rw [List.drop_eq_getElem_cons h]; rfl
set_option maxRecDepth 20000 in
theorem szT_mem : ∀ (F : List ByteArray) (t : ByteArray), t ∈ F → t.size ≤ szT F
  | [], _, h => absurd h (List.not_mem_nil)
  | a :: r, t, h => by
    rcases List.mem_cons.1 h with rfl | h
    · simp [szT]
    · have := szT_mem r t h; simp [szT]; omega
set_option maxRecDepth 20000 in
set_option maxHeartbeats 1000000 in
theorem lawSzTexts (o : Option Addr) (F : List ByteArray) (cap m : Nat) (w : World) (hF : Tx w.heap.size w o F) (hlen : F.length ≤ maxLen) (hsz : ∀ t ∈ F, t.size ≤ maxLen) (hm : m ≤ 1048576) :
    Calls Tryz.prog 10 #[.slice o F.length cap, .int .i64 m] w fun e w' => ∃ r : Int, e = .returned (.int .i64 r) ∧ (r = -1 ∨ (0 ≤ r ∧ F.length ≤ 1048576 ∧ ∀ t ∈ F, t.size ≤ 1048576)) ∧ Below w.heap.size w w' := by
  have HF : Hid (Tx w.heap.size w o F) := hF
  have Hsz : Hid (∀ t ∈ F, t.size ≤ maxLen) := hsz
  clear hF hsz
  unfold maxLen at hlen
  by_cases h0 : m < F.length
  · go_enter Tryz.func10, Tryz.ntmps10
    go_wp2
    go_ret
    exact ⟨-1, rfl, .inl rfl, Below.refl _ _⟩
  · obtain ⟨r0, hr0⟩ : ∃ r0 : Nat, m - F.length = r0 := ⟨_, rfl⟩
    have hr1 : (m : Int) - (F.length : Int) = (r0 : Int) := by omega
    go_enter Tryz.func10, Tryz.ntmps10
    clear hr0 h0
    have hr2 : r0 ≤ m := by omega
    have hlm : F.length ≤ 1048576 := by omega
    go_wp2
    clear hr1
    go_loopw [1, 5] (fun l i wr => ∃ (k r : Nat), k ≤ F.length ∧ i = .int .i64 k ∧ l = .int .i64 r ∧ r ≤ r0 ∧ Hid (∀ j (h : j < F.length), j < k → F[j].size ≤ 1048576) ∧ wr = w) (fun _ i _ => F.length - (Lib.intOf i).toNat)
    case atStart => exact ⟨0, r0, Nat.zero_le _, rfl, rfl, Nat.le_refl _, fun j h h0 => absurd h0 (Nat.not_lt_zero _), rfl⟩
    case round =>
      obtain ⟨k, r, hk, rfl, rfl, hr, hall, rfl⟩ := hrel
      by_cases hlt : k < F.length
      · obtain ⟨a, rfl, ha, hc0⟩ := HF.out k hlt
        have hkz := Hsz.out F[k] (List.getElem_mem hlt)
        unfold maxLen at hkz
        have Hk : Hid (F[k].size ≤ r → F[k].size ≤ 1048576) := show _ → _ from fun h => by omega
        generalize hf : F[k] = f at hc0 hkz Hk
        have Hf : Hid (F[k] = f) := hf
        clear hf
        by_cases hs : r < f.size
        · go_wp2
          go_ret
          exact ⟨-1, rfl, .inl rfl, Below.refl _ _⟩
        · obtain ⟨r1, hr1⟩ : ∃ r1 : Nat, r - f.size = r1 := ⟨_, rfl⟩
          have hr3 : (r : Int) - (f.size : Int) = (r1 : Int) := by omega
          have hr4 : r1 ≤ r := by omega
          have Hks : Hid (f.size ≤ 1048576) := Hk.out (by omega)
          clear hr1 Hk
          go_wp2
          go_roundw
          case rel =>
            refine ⟨k + 1, r1, by omega, by go_num, by first | rfl | (rw [hr3]), by omega, ?_, trivial⟩
            intro j h hj
            by_cases hjk : j < k
            · exact hall.out j h hjk
            · have : j = k := by omega
              subst this
              rw [Hf.out]; exact Hks.out
          case measure => simp [Lib.intOf]; omega
      · have Hall : Hid (∀ t ∈ F, t.size ≤ 1048576) := by
          intro t ht
          obtain ⟨j, hj, rfl⟩ := List.getElem_of_mem ht
          exact hall.out j hj (by omega)
        go_wp2
        go_ret
        exact ⟨r, rfl, .inr ⟨by omega, hlm, Hall.out⟩, Below.refl _ _⟩
end Go.Proofs.YtgabjiamabbheaaGreatDoor
