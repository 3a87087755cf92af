
/- Lists of texts that were handed in; the law's helpers over them. -/

/- Lists of numbers that were handed in; the law's helpers over them, and over texts. -/

/- Results that lie in a block: laws of no program. -/

/- Lists of texts and of numbers between two blocks; laws of the law's helpers over them, for the texts that tools/gen/structs.py writes. -/
import Derived.Test.YtonnmbkfjiddnaaBase
import Derived.Laws.OwnMore
import Derived.Laws.MakeOwn
import Derived.Deep.RegionWith
import Derived.WalkKit
import Derived.WalkLawsBesides
import Derived.WalkSpells
import Derived.Below
import Derived.Maps.OwnSet
import Derived.Deep.OwnRows
import Derived.Lib.QuietBelow
import Derived.Deep.QuietTactic
import Derived.BigQuiet
namespace Go.Proofs.Ytonnmbkfjiddnaa
open Go.RowKit Go.Lib Go.Maps
def Tx (B : Nat) (w : World) (o : Option Addr) (ps : List ByteArray) : Prop := ∀ k (h : k < ps.length), ∃ a, o = some a ∧ a.block < B ∧ w.cell? (a.add k) = some (.string ps[k])
theorem mkHid {p : Prop} (h : p) : Hid p := h
theorem Tx.below {B : Nat} {w w' : World} {o : Option Addr} {ps : List ByteArray} (h : Tx B w o ps) (hb : Below B w w') : Tx B w' o ps := by
  intro k hk
  obtain ⟨a, rfl, ha, hc⟩ := h k hk
  refine ⟨a, rfl, ha, ?_⟩
  rw [← hc]
  have e : (a.add k).block = a.block := by unfold Addr.add; split <;> rfl
  exact hb.cell (by rw [e]; exact ha)
theorem Tx.mono {B B' : Nat} {w : World} {o : Option Addr} {ps : List ByteArray} (h : Tx B w o ps) (hB : B ≤ B') : Tx B' w o ps := by
  intro k hk
  obtain ⟨a, rfl, ha, hc⟩ := h k hk
  exact ⟨a, rfl, by omega, hc⟩
theorem Try.info9 : (Try.prog.info? 9).map (fun i => (i.zero, i.size, i.bytes)) = some (some (.string ByteArray.empty), 1, 16) := by kernel_rfl
set_option maxHeartbeats 1000000 in
theorem lawToTexts (o : Option Addr) (F : List ByteArray) (cap : Nat) (w : World) (hF : Tx w.heap.size w o F) (hlen : F.length ≤ 1048576) :
    Calls Try.prog 34 #[.slice o F.length cap] w fun e w' => e = .returned (.slice (some ⟨w.heap.size, 0, none⟩) F.length F.length) ∧ Hid (Tx w'.heap.size w' (some ⟨w.heap.size, 0, none⟩) F) ∧ Below w.heap.size w w' := by
  obtain ⟨i0, hi, hy0, hy1, hy2⟩ := info_parts Try.info9
  have hmk := run_make (P := Try.prog) w 34 9 i0 _ Try.underlying34 hi hy0 .i64 .i64 F.length F.length (by omega) (Int.le_refl _) (by rw [hy2]; omega) (by omega)
  simp only [Int.toNat_natCast, hy1] at hmk
  have HF : Hid (Tx w.heap.size w o F) := hF
  clear hF
  have hown0 : (w.alloc (.cells (madeCells (Value.string ByteArray.empty).cells (F.length * 1)) 9)).ownsRow w.heap.size 9 1 (.slice (some ⟨w.heap.size, 0, none⟩) F.length F.length) F.length (madeCells (Value.string ByteArray.empty).cells (F.length * 1)).toList :=
    World.ownsRow_lit w _ F.length (Nat.le_refl _) (by unfold maxLen; omega) (size_madeCells _ _)
  have Hown0 : Hid (∃ xs, (w.alloc (.cells (madeCells (Value.string ByteArray.empty).cells (F.length * 1)) 9)).ownsRow w.heap.size 9 1 (.slice (some ⟨w.heap.size, 0, none⟩) F.length F.length) F.length xs) := ⟨_, hown0⟩
  clear hown0
  go_enter Try.func34, Try.ntmps34
  go_wp2
  go_loopw [4] (fun i wr => ∃ (k : Nat) (xs : List Value), k ≤ F.length ∧ i = .int .i64 k ∧ wr.ownsRow w.heap.size 9 1 (.slice (some ⟨w.heap.size, 0, none⟩) F.length F.length) F.length xs ∧
      Hid (∀ j (h : j < F.length), j < k → xs[j]? = some (.string F[j])) ∧ Below w.heap.size w wr) (fun i _ => F.length - (Lib.intOf i).toNat)
  case atStart =>
    obtain ⟨xs, hx⟩ := Hown0.out
    exact ⟨0, xs, Nat.zero_le _, rfl, by rw [Nat.mul_one] at hx; exact hx, fun j h h0 => absurd h0 (Nat.not_lt_zero _), (Below.refl _ _).alloc (Nat.le_refl _) _⟩
  case round =>
    clear Hown0
    obtain ⟨k, xs, hk, rfl, hown, hall, hb⟩ := hrel
    by_cases hlt : k < F.length
    · obtain ⟨a, rfl, ha, hc0⟩ := (HF.out.below hb) k hlt
      generalize hf : F[k] = f at hc0
      have Hf : Hid (F[k] = f) := hf
      clear hf
      have hl : xs.length = F.length * 1 := hown.1
      have d0 : wr.cell? ⟨w.heap.size, k, none⟩ = some (xs[k]'(by omega)) := by rw [hown.cellAt k (by omega)]; exact List.getElem?_eq_getElem _
      have z0 := hown.frozenAt k
      generalize xs[k]'(by omega) = y0 at d0
      have hadd := add_off w.heap.size k
      go_wp2
      go_roundw
      case rel =>
        refine ⟨k + 1, xs.set k (.string f), by omega, by go_num, (hown.stored _ _).1, ?_, hb.setCell (Nat.le_refl _) _⟩
        intro j h hj
        by_cases hjk : j < k
        · rw [List.getElem?_set_ne (by omega)]
          exact hall.out j h hjk
        · have : j = k := by omega
          subst this
          rw [List.getElem?_set_self (by omega), Hf.out]
      case measure => simp [Lib.intOf]; omega
    · go_wp2
      go_ret
      refine ⟨rfl, ?_, hb⟩
      intro j hj
      exact ⟨_, rfl, (hown.lt w.heap.size rfl).2, hown.cells (g := w.heap.size) rfl _ _ (hall.out j hj (by omega))⟩
set_option maxHeartbeats 400000 in
theorem lawEqTexts (a b : Addr) (F : List ByteArray) (cap cap' : Nat) (w : World) (hF : Tx w.heap.size w (some a) F) (hG : Tx w.heap.size w (some b) F) (hlen : F.length ≤ 1048576) :
    Calls Try.prog 46 #[.slice (some a) F.length cap, .slice (some b) F.length cap'] w fun e w' => e = .returned (.bool true) ∧ Below w.heap.size w w' := by
  have HF : Hid (Tx w.heap.size w (some a) F) := hF
  have HG : Hid (Tx w.heap.size w (some b) F) := hG
  clear hF hG
  go_enter Try.func46, Try.ntmps46
  go_wp2
  go_loopw [5] (fun i wr => ∃ k : Nat, k ≤ F.length ∧ i = .int .i64 k ∧ Below w.heap.size w wr) (fun i _ => F.length - (Lib.intOf i).toNat)
  case atStart => exact ⟨0, Nat.zero_le _, rfl, Below.refl _ _⟩
  case round =>
    obtain ⟨k, hk, rfl, hb0⟩ := hrel
    by_cases hlt : k < F.length
    · obtain ⟨a', ea, ha, hc0⟩ := (HF.out.below hb0) k hlt
      obtain ⟨b', eb, hb, hd0⟩ := (HG.out.below hb0) k hlt
      cases ea
      cases eb
      generalize F[k] = f at hc0 hd0
      go_wp2
      go_region
      all_goals
        go_wp2
        go_roundw
        case rel => exact ⟨k + 1, by omega, by go_num, hb0.drew⟩
        case measure => simp [Lib.intOf]; omega
    · go_wp2
      go_ret
      exact ⟨rfl, hb0⟩
def szT : List ByteArray → Nat
  | [] => 0
  | t :: r => t.size + szT r
theorem szT_drop (F : List ByteArray) (k : Nat) (h : k < F.length) : szT (F.drop k) = F[k].size + szT (F.drop (k + 1)) := by
  rw [List.drop_eq_getElem_cons h]; rfl
theorem szT_mem : ∀ (F : List ByteArray) (t : ByteArray), t ∈ F → t.size ≤ szT F
  | [], _, h => absurd h (List.not_mem_nil)
  | a :: r, t, h => by
    rcases List.mem_cons.1 h with rfl | h
    · simp [szT]
    · have := szT_mem r t h; simp [szT]; omega
set_option maxHeartbeats 1000000 in
theorem lawSzTexts (o : Option Addr) (F : List ByteArray) (cap m : Nat) (w : World) (hF : Tx w.heap.size w o F) (hlen : F.length ≤ maxLen) (hsz : ∀ t ∈ F, t.size ≤ maxLen) (hm : m ≤ 1048576) :
    Calls Try.prog 28 #[.slice o F.length cap, .int .i64 m] w fun e w' => ∃ r : Int, e = .returned (.int .i64 r) ∧ (r = -1 ∨ (0 ≤ r ∧ F.length ≤ 1048576 ∧ ∀ t ∈ F, t.size ≤ 1048576)) ∧ Below w.heap.size w w' := by
  have HF : Hid (Tx w.heap.size w o F) := hF
  have Hsz : Hid (∀ t ∈ F, t.size ≤ maxLen) := hsz
  clear hF hsz
  unfold maxLen at hlen
  by_cases h0 : m < F.length
  · go_enter Try.func28, Try.ntmps28
    go_wp2
    go_ret
    exact ⟨-1, rfl, .inl rfl, Below.refl _ _⟩
  · obtain ⟨r0, hr0⟩ : ∃ r0 : Nat, m - F.length = r0 := ⟨_, rfl⟩
    have hr1 : (m : Int) - (F.length : Int) = (r0 : Int) := by omega
    go_enter Try.func28, Try.ntmps28
    clear hr0 h0
    have hr2 : r0 ≤ m := by omega
    have hlm : F.length ≤ 1048576 := by omega
    go_wp2
    clear hr1
    go_loopw [1, 5] (fun l i wr => ∃ (k r : Nat), k ≤ F.length ∧ i = .int .i64 k ∧ l = .int .i64 r ∧ r ≤ r0 ∧ Hid (∀ j (h : j < F.length), j < k → F[j].size ≤ 1048576) ∧ wr = w) (fun _ i _ => F.length - (Lib.intOf i).toNat)
    case atStart => exact ⟨0, r0, Nat.zero_le _, rfl, rfl, Nat.le_refl _, fun j h h0 => absurd h0 (Nat.not_lt_zero _), rfl⟩
    case round =>
      obtain ⟨k, r, hk, rfl, rfl, hr, hall, rfl⟩ := hrel
      by_cases hlt : k < F.length
      · obtain ⟨a, rfl, ha, hc0⟩ := HF.out k hlt
        have hkz := Hsz.out F[k] (List.getElem_mem hlt)
        unfold maxLen at hkz
        have Hk : Hid (F[k].size ≤ r → F[k].size ≤ 1048576) := show _ → _ from fun h => by omega
        generalize hf : F[k] = f at hc0 hkz Hk
        have Hf : Hid (F[k] = f) := hf
        clear hf
        by_cases hs : r < f.size
        · go_wp2
          go_ret
          exact ⟨-1, rfl, .inl rfl, Below.refl _ _⟩
        · obtain ⟨r1, hr1⟩ : ∃ r1 : Nat, r - f.size = r1 := ⟨_, rfl⟩
          have hr3 : (r : Int) - (f.size : Int) = (r1 : Int) := by omega
          have hr4 : r1 ≤ r := by omega
          have Hks : Hid (f.size ≤ 1048576) := Hk.out (by omega)
          clear hr1 Hk
          go_wp2
          go_roundw
          case rel =>
            refine ⟨k + 1, r1, by omega, by go_num, by first | rfl | (rw [hr3]), by omega, ?_, trivial⟩
            intro j h hj
            by_cases hjk : j < k
            · exact hall.out j h hjk
            · have : j = k := by omega
              subst this
              rw [Hf.out]; exact Hks.out
          case measure => simp [Lib.intOf]; omega
      · have Hall : Hid (∀ t ∈ F, t.size ≤ 1048576) := by
          intro t ht
          obtain ⟨j, hj, rfl⟩ := List.getElem_of_mem ht
          exact hall.out j hj (by omega)
        go_wp2
        go_ret
        exact ⟨r, rfl, .inr ⟨by omega, hlm, Hall.out⟩, Below.refl _ _⟩
end Go.Proofs.Ytonnmbkfjiddnaa
namespace Go.Proofs.Ytonnmbkfjiddnaa
open Go.RowKit Go.Lib Go.Maps
/-- The slice of numbers at o, in blocks below B. -/
def Ints (B : Nat) (w : World) (o : Option Addr) (ps : List Int) : Prop := ∀ k (h : k < ps.length), ∃ a, o = some a ∧ a.block < B ∧ w.cell? (a.add k) = some (.int .i64 ps[k])
theorem Ints.below {B : Nat} {w w' : World} {o : Option Addr} {ps : List Int} (h : Ints B w o ps) (hb : Below B w w') : Ints B w' o ps := by
  intro k hk
  obtain ⟨a, rfl, ha, hc⟩ := h k hk
  refine ⟨a, rfl, ha, ?_⟩
  rw [← hc]
  have e : (a.add k).block = a.block := by unfold Addr.add; split <;> rfl
  exact hb.cell (by rw [e]; exact ha)
theorem Ints.mono {B B' : Nat} {w : World} {o : Option Addr} {ps : List Int} (h : Ints B w o ps) (hB : B ≤ B') : Ints B' w o ps := by
  intro k hk
  obtain ⟨a, rfl, ha, hc⟩ := h k hk
  exact ⟨a, rfl, by omega, hc⟩
theorem Try.info2 : (Try.prog.info? 2).map (fun i => (i.zero, i.size, i.bytes)) = some (some (.int .i64 0), 1, 8) := by kernel_rfl
set_option maxHeartbeats 1000000 in
theorem lawToInts (o : Option Addr) (F : List Int) (cap : Nat) (w : World) (hF : Ints w.heap.size w o F) (hlen : F.length ≤ 1048576) :
    Calls Try.prog 35 #[.slice o F.length cap] w fun e w' => e = .returned (.slice (some ⟨w.heap.size, 0, none⟩) F.length F.length) ∧ Hid (Ints w'.heap.size w' (some ⟨w.heap.size, 0, none⟩) F) ∧ Below w.heap.size w w' := by
  obtain ⟨i0, hi, hy0, hy1, hy2⟩ := info_parts Try.info2
  have hmk := run_make (P := Try.prog) w 35 2 i0 _ Try.underlying35 hi hy0 .i64 .i64 F.length F.length (by omega) (Int.le_refl _) (by rw [hy2]; omega) (by omega)
  simp only [Int.toNat_natCast, hy1] at hmk
  have HF : Hid (Ints w.heap.size w o F) := hF
  clear hF
  have hown0 : (w.alloc (.cells (madeCells (Value.int .i64 0).cells (F.length * 1)) 2)).ownsRow w.heap.size 2 1 (.slice (some ⟨w.heap.size, 0, none⟩) F.length F.length) F.length (madeCells (Value.int .i64 0).cells (F.length * 1)).toList :=
    World.ownsRow_lit w _ F.length (Nat.le_refl _) (by unfold maxLen; omega) (size_madeCells _ _)
  have Hown0 : Hid (∃ xs, (w.alloc (.cells (madeCells (Value.int .i64 0).cells (F.length * 1)) 2)).ownsRow w.heap.size 2 1 (.slice (some ⟨w.heap.size, 0, none⟩) F.length F.length) F.length xs) := ⟨_, hown0⟩
  clear hown0
  go_enter Try.func35, Try.ntmps35
  go_wp2
  go_loopw [4] (fun i wr => ∃ (k : Nat) (xs : List Value), k ≤ F.length ∧ i = .int .i64 k ∧ wr.ownsRow w.heap.size 2 1 (.slice (some ⟨w.heap.size, 0, none⟩) F.length F.length) F.length xs ∧
      Hid (∀ j (h : j < F.length), j < k → xs[j]? = some (.int .i64 F[j])) ∧ Below w.heap.size w wr) (fun i _ => F.length - (Lib.intOf i).toNat)
  case atStart =>
    obtain ⟨xs, hx⟩ := Hown0.out
    exact ⟨0, xs, Nat.zero_le _, rfl, by rw [Nat.mul_one] at hx; exact hx, fun j h h0 => absurd h0 (Nat.not_lt_zero _), (Below.refl _ _).alloc (Nat.le_refl _) _⟩
  case round =>
    clear Hown0
    obtain ⟨k, xs, hk, rfl, hown, hall, hb⟩ := hrel
    by_cases hlt : k < F.length
    · obtain ⟨a, rfl, ha, hc0⟩ := (HF.out.below hb) k hlt
      generalize hf : F[k] = f at hc0
      have Hf : Hid (F[k] = f) := hf
      clear hf
      have hl : xs.length = F.length * 1 := hown.1
      have d0 : wr.cell? ⟨w.heap.size, k, none⟩ = some (xs[k]'(by omega)) := by rw [hown.cellAt k (by omega)]; exact List.getElem?_eq_getElem _
      have z0 := hown.frozenAt k
      generalize xs[k]'(by omega) = y0 at d0
      have hadd := add_off w.heap.size k
      go_wp2
      go_roundw
      case rel =>
        refine ⟨k + 1, xs.set k (.int .i64 f), by omega, by go_num, (hown.stored _ _).1, ?_, hb.setCell (Nat.le_refl _) _⟩
        intro j h hj
        by_cases hjk : j < k
        · rw [List.getElem?_set_ne (by omega)]
          exact hall.out j h hjk
        · have : j = k := by omega
          subst this
          rw [List.getElem?_set_self (by omega), Hf.out]
      case measure => simp [Lib.intOf]; omega
    · go_wp2
      go_ret
      refine ⟨rfl, ?_, hb⟩
      intro j hj
      exact ⟨_, rfl, (hown.lt w.heap.size rfl).2, hown.cells (g := w.heap.size) rfl _ _ (hall.out j hj (by omega))⟩
set_option maxHeartbeats 400000 in
theorem lawEqInts (a b : Addr) (F : List Int) (cap cap' : Nat) (w : World) (hF : Ints w.heap.size w (some a) F) (hG : Ints w.heap.size w (some b) F) (hlen : F.length ≤ 1048576) :
    Calls Try.prog 47 #[.slice (some a) F.length cap, .slice (some b) F.length cap'] w fun e w' => e = .returned (.bool true) ∧ Below w.heap.size w w' := by
  have HF : Hid (Ints w.heap.size w (some a) F) := hF
  have HG : Hid (Ints w.heap.size w (some b) F) := hG
  clear hF hG
  go_enter Try.func47, Try.ntmps47
  go_wp2
  go_loopw [5] (fun i wr => ∃ k : Nat, k ≤ F.length ∧ i = .int .i64 k ∧ Below w.heap.size w wr) (fun i _ => F.length - (Lib.intOf i).toNat)
  case atStart => exact ⟨0, Nat.zero_le _, rfl, Below.refl _ _⟩
  case round =>
    obtain ⟨k, hk, rfl, hb0⟩ := hrel
    by_cases hlt : k < F.length
    · obtain ⟨a', ea, ha, hc0⟩ := (HF.out.below hb0) k hlt
      obtain ⟨b', eb, hb, hd0⟩ := (HG.out.below hb0) k hlt
      cases ea
      cases eb
      generalize F[k] = f at hc0 hd0
      go_wp2
      go_region
      all_goals
        go_wp2
        go_roundw
        case rel => exact ⟨k + 1, by omega, by go_num, hb0.drew⟩
        case measure => simp [Lib.intOf]; omega
    · go_wp2
      go_ret
      exact ⟨rfl, hb0⟩
set_option maxHeartbeats 1000000 in
theorem lawSzTextsB (o : Option Addr) (F : List ByteArray) (cap m : Nat) (w : World) (hF : Tx w.heap.size w o F) (hlen : F.length ≤ maxLen) (hsz : ∀ t ∈ F, t.size ≤ maxLen) (hm : m ≤ 1048576) :
    Calls Try.prog 28 #[.slice o F.length cap, .int .i64 m] w fun e w' => ∃ r : Int, e = .returned (.int .i64 r) ∧ (r = -1 ∨ (0 ≤ r ∧ r ≤ m ∧ F.length ≤ 1048576 ∧ ∀ t ∈ F, t.size ≤ 1048576)) ∧ Below w.heap.size w w' := by
  have HF : Hid (Tx w.heap.size w o F) := hF
  have Hsz : Hid (∀ t ∈ F, t.size ≤ maxLen) := hsz
  clear hF hsz
  unfold maxLen at hlen
  by_cases h0 : m < F.length
  · go_enter Try.func28, Try.ntmps28
    go_wp2
    go_ret
    exact ⟨-1, rfl, .inl rfl, Below.refl _ _⟩
  · obtain ⟨r0, hr0⟩ : ∃ r0 : Nat, m - F.length = r0 := ⟨_, rfl⟩
    have hr1 : (m : Int) - (F.length : Int) = (r0 : Int) := by omega
    go_enter Try.func28, Try.ntmps28
    clear hr0 h0
    have hr2 : r0 ≤ m := by omega
    have hlm : F.length ≤ 1048576 := by omega
    go_wp2
    clear hr1
    go_loopw [1, 5] (fun l i wr => ∃ (k r : Nat), k ≤ F.length ∧ i = .int .i64 k ∧ l = .int .i64 r ∧ r ≤ r0 ∧ Hid (∀ j (h : j < F.length), j < k → F[j].size ≤ 1048576) ∧ wr = w) (fun _ i _ => F.length - (Lib.intOf i).toNat)
    case atStart => exact ⟨0, r0, Nat.zero_le _, rfl, rfl, Nat.le_refl _, fun j h h0 => absurd h0 (Nat.not_lt_zero _), rfl⟩
    case round =>
      obtain ⟨k, r, hk, rfl, rfl, hr, hall, rfl⟩ := hrel
      by_cases hlt : k < F.length
      · obtain ⟨a, rfl, ha, hc0⟩ := HF.out k hlt
        have hkz := Hsz.out F[k] (List.getElem_mem hlt)
        unfold maxLen at hkz
        have Hk : Hid (F[k].size ≤ r → F[k].size ≤ 1048576) := show _ → _ from fun h => by omega
        generalize hf : F[k] = f at hc0 hkz Hk
        have Hf : Hid (F[k] = f) := hf
        clear hf
        by_cases hs : r < f.size
        · go_wp2
          go_ret
          exact ⟨-1, rfl, .inl rfl, Below.refl _ _⟩
        · obtain ⟨r1, hr1⟩ : ∃ r1 : Nat, r - f.size = r1 := ⟨_, rfl⟩
          have hr3 : (r : Int) - (f.size : Int) = (r1 : Int) := by omega
          have hr4 : r1 ≤ r := by omega
          have Hks : Hid (f.size ≤ 1048576) := Hk.out (by omega)
          clear hr1 Hk
          go_wp2
          go_roundw
          case rel =>
            refine ⟨k + 1, r1, by omega, by go_num, by first | rfl | (rw [hr3]), by omega, ?_, trivial⟩
            intro j h hj
            by_cases hjk : j < k
            · exact hall.out j h hjk
            · have : j = k := by omega
              subst this
              rw [Hf.out]; exact Hks.out
          case measure => simp [Lib.intOf]; omega
      · have Hall : Hid (∀ t ∈ F, t.size ≤ 1048576) := by
          intro t ht
          obtain ⟨j, hj, rfl⟩ := List.getElem_of_mem ht
          exact hall.out j hj (by omega)
        go_wp2
        go_ret
        exact ⟨r, rfl, .inr ⟨by omega, by omega, hlm, Hall.out⟩, Below.refl _ _⟩
set_option maxHeartbeats 400000 in
theorem lawSzInts (o : Option Addr) (n cap m : Nat) (w : World) (hlen : n ≤ maxLen) (hm : m ≤ 1048576) :
    Calls Try.prog 29 #[.slice o n cap, .int .i64 m] w fun e w' => ∃ r : Int, e = .returned (.int .i64 r) ∧ (r = -1 ∨ (0 ≤ r ∧ r ≤ m ∧ n ≤ 1048576)) ∧ Below w.heap.size w w' := by
  unfold maxLen at hlen
  by_cases h0 : m < n
  · go_enter Try.func29, Try.ntmps29
    go_wp2
    go_ret
    exact ⟨-1, rfl, .inl rfl, Below.refl _ _⟩
  · go_enter Try.func29, Try.ntmps29
    go_wp2
    go_ret
    exact ⟨_, rfl, .inr ⟨by omega, by omega, by omega⟩, Below.refl _ _⟩
end Go.Proofs.Ytonnmbkfjiddnaa
namespace Go.Proofs.Ytonnmbkfjiddnaa
open Go.RowKit Go.Lib
theorem heap_alloc_at (w : World) (o : Obj) : (w.alloc o).heap[w.heap.size]? = some o := by
  show (w.heap.push o)[w.heap.size]? = some o
  simp
theorem heap_lt {w : World} {b : Nat} {o : Obj} (h : w.heap[b]? = some o) : b < w.heap.size := by
  rw [Array.getElem?_eq_some_iff] at h; exact h.1
theorem heap_alloc_old (w : World) (o : Obj) (g : Nat) (h : g < w.heap.size) : (w.alloc o).heap[g]? = w.heap[g]? := by
  show (w.heap.push o)[g]? = w.heap[g]?
  simp [Array.getElem?_push]
  omega
theorem two_cells {w : World} {b : Nat} {x y : Value} {t : TypeId} {z : Nat × Nat} (h : w.heap[b]? = some (.cells #[x, y] t z)) : w.cell? ⟨b, 0, none⟩ = some x ∧ w.cell? ⟨b, 1, none⟩ = some y := by
  constructor <;> simp [World.cell?, h]
theorem wpL_load_row {P : Program} {w : World} {ops : Array Oper} {rest : List Oper} {o : Oper} {a : Act} {Q : Exit → Act → World → Prop} (hg : o.guard = none) (ty : TypeId) (x : Operand) (ho : o.op = .load ty x)
    (g : Nat) (cs : Array Value) (t : TypeId) (fr : Nat × Nat) (d : TypeDesc) (hx : a.eval x = .pointer (some ⟨g, 0, none⟩)) (hgp : w.heap[g]? = some (.cells cs t fr))
    (hu : P.underlying ty = some d) (hd : (match d with | .struct _ | .array _ _ => true | _ => false) = true) (hi : (P.info? ty).map (·.size) = some cs.size)
    (h : wpList P ops Q rest (a.put o.dst (.agg cs)) w) : wpList P ops Q (o :: rest) a w := by
  refine wpList_plain hg fun K' hK' => ?_
  unfold Oper.wp execOp
  simp only [ho, hx, Instr.loadAt, Instr.sureAddr, Sem.run_bind, Sem.run_pure, Result.andThen_ok, run_loadVar_row w g t ty cs fr d hgp hu hd hi]
  exact hK' _ _ h
theorem wpL_store_row {P : Program} {w : World} {ops : Array Oper} {rest : List Oper} {o : Oper} {a : Act} {Q : Exit → Act → World → Prop} (hg : o.guard = none) (ty : TypeId) (x y : Operand) (ho : o.op = .store ty x y)
    (g : Nat) (cells : Array Value) (hx : a.eval x = .pointer (some ⟨g, 0, none⟩)) (hy : a.eval y = .agg cells)
    (t : TypeId) (old : Array Value) (hgp : w.heap[g]? = some (.cells old t (0, 0))) (hi : (P.info? ty).map (·.size) = some cells.size)
    (hold : old.size = cells.size) (h1 : cells.all (·.oneCell') = true)
    (h : wpList P ops Q rest (a.put o.dst undef) (w.setRow g cells)) : wpList P ops Q (o :: rest) a w := by
  refine wpList_plain hg fun K' hK' => ?_
  exact wp_store_row ty x y ho g cells hx hy t old hgp hi hold h1 (hK' _ _ h)
theorem grown_setRow (w : World) (g : Nat) (cs : Array Value) : w.grownBy (w.setRow g cs) (some g) :=
  ⟨rfl, rfl, rfl, by simp, fun i _ hi => setRow_other w g i cs (fun e => hi (by rw [e]))⟩
end Go.Proofs.Ytonnmbkfjiddnaa
namespace Go.Proofs.Ytonnmbkfjiddnaa
open Go.RowKit Go.Lib Go.Maps
theorem add_blockG (a : Addr) (n : Nat) : (a.add n).block = a.block := by unfold Addr.add; split <;> rfl
/-- The blocks from lo on and below hi are the same. -/
def Same (lo hi : Nat) (w w' : World) : Prop := ∀ k, lo ≤ k → k < hi → w'.heap[k]? = w.heap[k]?
theorem Same.cell {lo hi : Nat} {w w' : World} (h : Same lo hi w w') {p : Addr} (h1 : lo ≤ p.block) (h2 : p.block < hi) : w'.cell? p = w.cell? p := World.cell?_of_block (w := w) (h p.block h1 h2)
theorem Same.of_below {lo hi B : Nat} {w w' : World} (h : Below B w w') (hB : hi ≤ B) : Same lo hi w w' := fun k _ h2 => h.block k (Nat.lt_of_lt_of_le h2 hB)
theorem Same.gr {lo hi g : Nat} {w w' : World} (h : w.grownBy w' (some g)) (hg : g < lo) (hh : hi ≤ w.heap.size) : Same lo hi w w' := fun k h1 h2 => h.block k (Nat.lt_of_lt_of_le h2 hh) (by intro e; cases e; omega)
theorem grG_trans {a b c : World} {r : Option Nat} (h : a.grownBy b r) (k : b.grownBy c r) : a.grownBy c r :=
  ⟨k.os.trans h.os, k.tape.trans h.tape, k.output.trans h.output, Nat.le_trans h.size k.size, fun i hi hr => (k.block i (Nat.lt_of_lt_of_le hi h.size) hr).trans (h.block i hi hr)⟩
theorem hp_setG (w : World) (g j k : Nat) (v : Value) (h : g ≠ k) : (w.setCell ⟨g, j, none⟩ v).heap[k]? = w.heap[k]? := by
  simp [World.setCell, Array.getElem?_modify, h]
theorem grG_set (w : World) (g j : Nat) (v : Value) : w.grownBy (w.setCell ⟨g, j, none⟩ v) (some g) :=
  ⟨rfl, rfl, rfl, by simp [World.setCell], fun k _ hr => hp_setG _ _ _ _ _ (fun e => hr (by rw [e]))⟩
/-- All blocks from lo on are cells, and none of them is frozen. -/
def Soft (lo : Nat) (w : World) : Prop := ∀ k, lo ≤ k → k < w.heap.size → ∃ cs t, w.heap[k]? = some (.cells cs t (0, 0))
theorem Soft.refl (w : World) : Soft w.heap.size w := fun k h1 h2 => by omega
theorem Soft.alloc {lo : Nat} {w : World} (h : Soft lo w) (cs : Array Value) (t : TypeId) : Soft lo (w.alloc (.cells cs t)) := by
  intro k h1 h2
  by_cases hk : k < w.heap.size
  · rw [heap_alloc_old _ _ _ hk]
    exact h k h1 hk
  · rw [World.size_alloc] at h2
    have : k = w.heap.size := by omega
    rw [this]
    exact ⟨cs, t, heap_alloc_at _ _⟩
theorem Soft.set {lo : Nat} {w : World} (h : Soft lo w) (g j : Nat) (v : Value) : Soft lo (w.setCell ⟨g, j, none⟩ v) := by
  intro k h1 h2
  have h3 : k < w.heap.size := by simpa [World.setCell] using h2
  obtain ⟨cs, t, e⟩ := h k h1 h3
  by_cases hg : g = k
  · subst hg
    exact ⟨_, t, by simp [World.setCell, Array.getElem?_modify, e]; rfl⟩
  · rw [hp_setG _ _ _ _ _ hg]
    exact ⟨cs, t, e⟩
theorem Soft.setRow {lo : Nat} {w : World} (h : Soft lo w) (g : Nat) (cs : Array Value) : Soft lo (w.setRow g cs) := by
  intro k h1 h2
  have h3 : k < w.heap.size := by simpa using h2
  obtain ⟨c0, t, e⟩ := h k h1 h3
  by_cases hg : k = g
  · subst hg
    exact ⟨cs, t, setRow_heap _ _ _ _ _ _ e⟩
  · rw [setRow_other w g k cs hg]
    exact ⟨c0, t, e⟩
theorem Soft.call {lo : Nat} {w w' : World} (h : Soft lo w) (hb : Below w.heap.size w w') (h' : Soft w.heap.size w') : Soft lo w' := by
  intro k h1 h2
  by_cases hk : k < w.heap.size
  · rw [hb.block k hk]
    exact h k h1 hk
  · exact h' k (by omega) h2
theorem three_blocks {w V : World} {G : Nat} {o1 o2 o3 : Obj} (hG : w.heap.size = G) (hV : V = ((w.alloc o1).alloc o2).alloc o3) : Below G w V ∧ G + 3 ≤ V.heap.size ∧ V.heap[G]? = some o1 ∧ V.heap[G + 1]? = some o2 ∧ V.heap[G + 1 + 1]? = some o3 := by
  subst hV hG
  refine ⟨(((Below.refl _ _).alloc (Nat.le_refl _) _).alloc (by simp) _).alloc (by simp; omega) _, by simp, ?_, ?_, ?_⟩
  · rw [heap_alloc_old _ _ _ (by simp; omega), heap_alloc_old _ _ _ (by simp)]
    exact heap_alloc_at _ _
  · rw [heap_alloc_old _ _ _ (by simp)]
    have := heap_alloc_at (w.alloc o1) o2
    rw [World.size_alloc] at this
    exact this
  · have := heap_alloc_at ((w.alloc o1).alloc o2) o3
    rw [World.size_alloc, World.size_alloc] at this
    exact this
theorem two_blocks {w V : World} {o1 o2 : Obj} (hV : V = (w.alloc o1).alloc o2) : Below w.heap.size w V ∧ w.heap.size + 2 ≤ V.heap.size ∧ V.heap[w.heap.size]? = some o1 ∧ V.heap[w.heap.size + 1]? = some o2 := by
  subst hV
  refine ⟨((Below.refl _ _).alloc (Nat.le_refl _) _).alloc (by simp) _, by simp, ?_, ?_⟩
  · rw [heap_alloc_old _ _ _ (by simp)]
    exact heap_alloc_at _ _
  · have := heap_alloc_at (w.alloc o1) o2
    rw [World.size_alloc] at this
    exact this
theorem prod_le {n b : Nat} (h : n ≤ 1048576) (hb : b ≤ 400) : n * b ≤ 140737488351232 := Nat.le_trans (Nat.mul_le_mul h hb) (by decide)
def TxL (lo hi : Nat) (w : World) (o : Option Addr) (F : List ByteArray) : Prop := ∀ i (h : i < F.length), ∃ a, o = some a ∧ lo ≤ a.block ∧ a.block < hi ∧ w.cell? (a.add i) = some (.string F[i])
def InL (lo hi : Nat) (w : World) (o : Option Addr) (F : List Int) : Prop := ∀ i (h : i < F.length), ∃ a, o = some a ∧ lo ≤ a.block ∧ a.block < hi ∧ w.cell? (a.add i) = some (.int .i64 F[i])
theorem TxL.same {lo hi : Nat} {w w' : World} {o : Option Addr} {F : List ByteArray} (h : TxL lo hi w o F) (hs : Same lo hi w w') : TxL lo hi w' o F := by
  intro i hi
  obtain ⟨a, ho, h1, h2, h3⟩ := h i hi
  exact ⟨a, ho, h1, h2, (hs.cell (by rw [add_blockG]; exact h1) (by rw [add_blockG]; exact h2)).trans h3⟩
theorem InL.same {lo hi : Nat} {w w' : World} {o : Option Addr} {F : List Int} (h : InL lo hi w o F) (hs : Same lo hi w w') : InL lo hi w' o F := by
  intro i hi
  obtain ⟨a, ho, h1, h2, h3⟩ := h i hi
  exact ⟨a, ho, h1, h2, (hs.cell (by rw [add_blockG]; exact h1) (by rw [add_blockG]; exact h2)).trans h3⟩
theorem TxL.mono {lo lo' hi hi' : Nat} {w : World} {o : Option Addr} {F : List ByteArray} (h : TxL lo hi w o F) (hl : lo' ≤ lo) (hh : hi ≤ hi') : TxL lo' hi' w o F := by
  intro i hi
  obtain ⟨a, ho, h1, h2, h3⟩ := h i hi
  exact ⟨a, ho, Nat.le_trans hl h1, Nat.lt_of_lt_of_le h2 hh, h3⟩
theorem InL.mono {lo lo' hi hi' : Nat} {w : World} {o : Option Addr} {F : List Int} (h : InL lo hi w o F) (hl : lo' ≤ lo) (hh : hi ≤ hi') : InL lo' hi' w o F := by
  intro i hi
  obtain ⟨a, ho, h1, h2, h3⟩ := h i hi
  exact ⟨a, ho, Nat.le_trans hl h1, Nat.lt_of_lt_of_le h2 hh, h3⟩
theorem TxL.below {lo hi B : Nat} {w w' : World} {o : Option Addr} {F : List ByteArray} (h : TxL lo hi w o F) (hb : Below B w w') (hB : hi ≤ B) : TxL lo hi w' o F := h.same (Same.of_below hb hB)
theorem InL.below {lo hi B : Nat} {w w' : World} {o : Option Addr} {F : List Int} (h : InL lo hi w o F) (hb : Below B w w') (hB : hi ≤ B) : InL lo hi w' o F := h.same (Same.of_below hb hB)
theorem TxL.tx {lo hi : Nat} {w : World} {o : Option Addr} {F : List ByteArray} (h : TxL lo hi w o F) : Tx hi w o F := fun i hi => let ⟨a, ho, _, h2, h3⟩ := h i hi; ⟨a, ho, h2, h3⟩
theorem InL.ints {lo hi : Nat} {w : World} {o : Option Addr} {F : List Int} (h : InL lo hi w o F) : Ints hi w o F := fun i hi => let ⟨a, ho, _, h2, h3⟩ := h i hi; ⟨a, ho, h2, h3⟩
theorem lawSzSStr (o : Option Addr) (F : List ByteArray) (cap m lo : Nat) (w : World) (hF : TxL lo w.heap.size w o F) (hlen : F.length ≤ maxLen) (hsz : ∀ t ∈ F, t.size ≤ maxLen) (hm : m ≤ 1048576) :
    Calls Try.prog 28 #[.slice o F.length cap, .int .i64 m] w fun e w' => ∃ r : Int, e = .returned (.int .i64 r) ∧ Hid (r = -1 ∨ ∃ m' : Nat, r = m' ∧ m' ≤ m ∧ F.length ≤ 1048576 ∧ ∀ t ∈ F, t.size ≤ 1048576) ∧ Below w.heap.size w w' :=
  (lawSzTextsB o F cap m w hF.tx hlen hsz hm).mono fun e w' ⟨r, h1, h2, h3⟩ => ⟨r, h1, h2.elim .inl (fun ⟨x1, x2, x3, x4⟩ => .inr ⟨r.toNat, by omega, by omega, x3, x4⟩), h3⟩
theorem lawSzSInt (o : Option Addr) (F : List Int) (cap m : Nat) (w : World) (hlen : F.length ≤ maxLen) (hm : m ≤ 1048576) :
    Calls Try.prog 29 #[.slice o F.length cap, .int .i64 m] w fun e w' => ∃ r : Int, e = .returned (.int .i64 r) ∧ Hid (r = -1 ∨ ∃ m' : Nat, r = m' ∧ m' ≤ m ∧ F.length ≤ 1048576) ∧ Below w.heap.size w w' :=
  (lawSzInts o F.length cap m w hlen hm).mono fun e w' ⟨r, h1, h2, h3⟩ => ⟨r, h1, h2.elim .inl (fun ⟨x1, x2, x3⟩ => .inr ⟨r.toNat, by omega, by omega, x3⟩), h3⟩
set_option maxHeartbeats 1000000 in
theorem lawToSXStr (o : Option Addr) (F : List ByteArray) (cap lo : Nat) (w : World) (hF0 : TxL lo w.heap.size w o F) (hlen : F.length ≤ 1048576) (_hfit : ∀ t ∈ F, t.size ≤ 1048576) :
    Calls Try.prog 34 #[.slice o F.length cap] w fun e w' => e = .returned (.slice (some ⟨w.heap.size, 0, none⟩) F.length F.length) ∧ Hid (TxL w.heap.size w'.heap.size w' (some ⟨w.heap.size, 0, none⟩) F) ∧ Below w.heap.size w w' ∧ Hid (Soft w.heap.size w') := by
  have hF := hF0.tx
  clear hF0
  obtain ⟨i0, hi, hy0, hy1, hy2⟩ := info_parts Try.info9
  have hmk := run_make (P := Try.prog) w 34 9 i0 _ Try.underlying34 hi hy0 .i64 .i64 F.length F.length (by omega) (Int.le_refl _) (by rw [hy2]; omega) (by omega)
  simp only [Int.toNat_natCast, hy1] at hmk
  have HF : Hid (Tx w.heap.size w o F) := hF
  clear hF
  have hown0 : (w.alloc (.cells (madeCells (Value.string ByteArray.empty).cells (F.length * 1)) 9)).ownsRow w.heap.size 9 1 (.slice (some ⟨w.heap.size, 0, none⟩) F.length F.length) F.length (madeCells (Value.string ByteArray.empty).cells (F.length * 1)).toList :=
    World.ownsRow_lit w _ F.length (Nat.le_refl _) (by unfold maxLen; omega) (size_madeCells _ _)
  have Hown0 : Hid (∃ xs, (w.alloc (.cells (madeCells (Value.string ByteArray.empty).cells (F.length * 1)) 9)).ownsRow w.heap.size 9 1 (.slice (some ⟨w.heap.size, 0, none⟩) F.length F.length) F.length xs) := ⟨_, hown0⟩
  clear hown0
  go_enter Try.func34, Try.ntmps34
  go_wp2
  go_loopw [4] (fun i wr => ∃ (k : Nat) (xs : List Value), k ≤ F.length ∧ i = .int .i64 k ∧ wr.ownsRow w.heap.size 9 1 (.slice (some ⟨w.heap.size, 0, none⟩) F.length F.length) F.length xs ∧
      Hid (∀ j (h : j < F.length), j < k → xs[j]? = some (.string F[j])) ∧ Below w.heap.size w wr ∧ Hid (Soft w.heap.size wr)) (fun i _ => F.length - (Lib.intOf i).toNat)
  case atStart =>
    obtain ⟨xs, hx⟩ := Hown0.out
    exact ⟨0, xs, Nat.zero_le _, rfl, by rw [Nat.mul_one] at hx; exact hx, fun j h h0 => absurd h0 (Nat.not_lt_zero _), (Below.refl _ _).alloc (Nat.le_refl _) _, (Soft.refl _).alloc _ _⟩
  case round =>
    clear Hown0
    obtain ⟨k, xs, hk, rfl, hown, hall, hb, hSf⟩ := hrel
    by_cases hlt : k < F.length
    · obtain ⟨a, rfl, ha, hc0⟩ := (HF.out.below hb) k hlt
      generalize hf : F[k] = f at hc0
      have Hf : Hid (F[k] = f) := hf
      clear hf
      have hl : xs.length = F.length * 1 := hown.1
      have d0 : wr.cell? ⟨w.heap.size, k, none⟩ = some (xs[k]'(by omega)) := by rw [hown.cellAt k (by omega)]; exact List.getElem?_eq_getElem _
      have z0 := hown.frozenAt k
      generalize xs[k]'(by omega) = y0 at d0
      have hadd := add_off w.heap.size k
      go_wp2
      go_roundw
      case rel =>
        refine ⟨k + 1, xs.set k (.string f), by omega, by go_num, (hown.stored _ _).1, ?_, hb.setCell (Nat.le_refl _) _, hSf.out.set _ _ _⟩
        intro j h hj
        by_cases hjk : j < k
        · rw [List.getElem?_set_ne (by omega)]
          exact hall.out j h hjk
        · have : j = k := by omega
          subst this
          rw [List.getElem?_set_self (by omega), Hf.out]
      case measure => simp [Lib.intOf]; omega
    · go_wp2
      go_ret
      refine ⟨rfl, ?_, hb, hSf⟩
      intro j hj
      exact ⟨_, rfl, Nat.le_refl _, (hown.lt w.heap.size rfl).2, hown.cells (g := w.heap.size) rfl _ _ (hall.out j hj (by omega))⟩
set_option maxHeartbeats 1000000 in
theorem lawToSXInt (o : Option Addr) (F : List Int) (cap lo : Nat) (w : World) (hF0 : InL lo w.heap.size w o F) (hlen : F.length ≤ 1048576) :
    Calls Try.prog 35 #[.slice o F.length cap] w fun e w' => e = .returned (.slice (some ⟨w.heap.size, 0, none⟩) F.length F.length) ∧ Hid (InL w.heap.size w'.heap.size w' (some ⟨w.heap.size, 0, none⟩) F) ∧ Below w.heap.size w w' ∧ Hid (Soft w.heap.size w') := by
  have hF := hF0.ints
  clear hF0
  obtain ⟨i0, hi, hy0, hy1, hy2⟩ := info_parts Try.info2
  have hmk := run_make (P := Try.prog) w 35 2 i0 _ Try.underlying35 hi hy0 .i64 .i64 F.length F.length (by omega) (Int.le_refl _) (by rw [hy2]; omega) (by omega)
  simp only [Int.toNat_natCast, hy1] at hmk
  have HF : Hid (Ints w.heap.size w o F) := hF
  clear hF
  have hown0 : (w.alloc (.cells (madeCells (Value.int .i64 0).cells (F.length * 1)) 2)).ownsRow w.heap.size 2 1 (.slice (some ⟨w.heap.size, 0, none⟩) F.length F.length) F.length (madeCells (Value.int .i64 0).cells (F.length * 1)).toList :=
    World.ownsRow_lit w _ F.length (Nat.le_refl _) (by unfold maxLen; omega) (size_madeCells _ _)
  have Hown0 : Hid (∃ xs, (w.alloc (.cells (madeCells (Value.int .i64 0).cells (F.length * 1)) 2)).ownsRow w.heap.size 2 1 (.slice (some ⟨w.heap.size, 0, none⟩) F.length F.length) F.length xs) := ⟨_, hown0⟩
  clear hown0
  go_enter Try.func35, Try.ntmps35
  go_wp2
  go_loopw [4] (fun i wr => ∃ (k : Nat) (xs : List Value), k ≤ F.length ∧ i = .int .i64 k ∧ wr.ownsRow w.heap.size 2 1 (.slice (some ⟨w.heap.size, 0, none⟩) F.length F.length) F.length xs ∧
      Hid (∀ j (h : j < F.length), j < k → xs[j]? = some (.int .i64 F[j])) ∧ Below w.heap.size w wr ∧ Hid (Soft w.heap.size wr)) (fun i _ => F.length - (Lib.intOf i).toNat)
  case atStart =>
    obtain ⟨xs, hx⟩ := Hown0.out
    exact ⟨0, xs, Nat.zero_le _, rfl, by rw [Nat.mul_one] at hx; exact hx, fun j h h0 => absurd h0 (Nat.not_lt_zero _), (Below.refl _ _).alloc (Nat.le_refl _) _, (Soft.refl _).alloc _ _⟩
  case round =>
    clear Hown0
    obtain ⟨k, xs, hk, rfl, hown, hall, hb, hSf⟩ := hrel
    by_cases hlt : k < F.length
    · obtain ⟨a, rfl, ha, hc0⟩ := (HF.out.below hb) k hlt
      generalize hf : F[k] = f at hc0
      have Hf : Hid (F[k] = f) := hf
      clear hf
      have hl : xs.length = F.length * 1 := hown.1
      have d0 : wr.cell? ⟨w.heap.size, k, none⟩ = some (xs[k]'(by omega)) := by rw [hown.cellAt k (by omega)]; exact List.getElem?_eq_getElem _
      have z0 := hown.frozenAt k
      generalize xs[k]'(by omega) = y0 at d0
      have hadd := add_off w.heap.size k
      go_wp2
      go_roundw
      case rel =>
        refine ⟨k + 1, xs.set k (.int .i64 f), by omega, by go_num, (hown.stored _ _).1, ?_, hb.setCell (Nat.le_refl _) _, hSf.out.set _ _ _⟩
        intro j h hj
        by_cases hjk : j < k
        · rw [List.getElem?_set_ne (by omega)]
          exact hall.out j h hjk
        · have : j = k := by omega
          subst this
          rw [List.getElem?_set_self (by omega), Hf.out]
      case measure => simp [Lib.intOf]; omega
    · go_wp2
      go_ret
      refine ⟨rfl, ?_, hb, hSf⟩
      intro j hj
      exact ⟨_, rfl, Nat.le_refl _, (hown.lt w.heap.size rfl).2, hown.cells (g := w.heap.size) rfl _ _ (hall.out j hj (by omega))⟩
theorem lawToSStr (o : Option Addr) (F : List ByteArray) (cap lo : Nat) (w : World) (hF : TxL lo w.heap.size w o F) (hlen : F.length ≤ 1048576) (_hfit : ∀ t ∈ F, t.size ≤ 1048576) :
    Calls Try.prog 34 #[.slice o F.length cap] w fun e w' => e = .returned (.slice (some ⟨w.heap.size, 0, none⟩) F.length F.length) ∧ Hid (TxL w.heap.size w'.heap.size w' (some ⟨w.heap.size, 0, none⟩) F) ∧ Below w.heap.size w w' :=
  (lawToTexts o F cap w hF.tx hlen).mono fun e w' ⟨h1, h2, h3⟩ => ⟨h1, fun i hi => (by obtain ⟨a, e1, e2, e3⟩ := h2.out i hi; cases e1; exact ⟨_, rfl, Nat.le_refl _, e2, e3⟩), h3⟩
theorem lawToSInt (o : Option Addr) (F : List Int) (cap lo : Nat) (w : World) (hF : InL lo w.heap.size w o F) (hlen : F.length ≤ 1048576) :
    Calls Try.prog 35 #[.slice o F.length cap] w fun e w' => e = .returned (.slice (some ⟨w.heap.size, 0, none⟩) F.length F.length) ∧ Hid (InL w.heap.size w'.heap.size w' (some ⟨w.heap.size, 0, none⟩) F) ∧ Below w.heap.size w w' :=
  (lawToInts o F cap w hF.ints hlen).mono fun e w' ⟨h1, h2, h3⟩ => ⟨h1, fun i hi => (by obtain ⟨a, e1, e2, e3⟩ := h2.out i hi; cases e1; exact ⟨_, rfl, Nat.le_refl _, e2, e3⟩), h3⟩
set_option maxHeartbeats 400000 in
theorem lawEqSStr (a b : Option Addr) (F : List ByteArray) (cap cap' lo lo' : Nat) (w : World) (hF : TxL lo w.heap.size w a F) (hG : TxL lo' w.heap.size w b F) (hlen : F.length ≤ 1048576) :
    Calls Try.prog 46 #[.slice a F.length cap, .slice b F.length cap'] w fun e w' => e = .returned (.bool true) ∧ Below w.heap.size w w' := by
  have HF := mkHid hF.tx
  have HG := mkHid hG.tx
  clear hF hG
  go_enter Try.func46, Try.ntmps46
  go_wp2
  go_loopw [5] (fun i wr => ∃ k : Nat, k ≤ F.length ∧ i = .int .i64 k ∧ Below w.heap.size w wr) (fun i _ => F.length - (Lib.intOf i).toNat)
  case atStart => exact ⟨0, Nat.zero_le _, rfl, Below.refl _ _⟩
  case round =>
    obtain ⟨k, hk, rfl, hb0⟩ := hrel
    by_cases hlt : k < F.length
    · obtain ⟨a', ea, ha, hc0⟩ := (HF.out.below hb0) k hlt
      obtain ⟨b', eb, hb, hd0⟩ := (HG.out.below hb0) k hlt
      subst ea eb
      generalize F[k] = f at hc0 hd0
      go_wp2
      go_region
      all_goals
        go_wp2
        go_roundw
        case rel => exact ⟨k + 1, by omega, by go_num, hb0.drew⟩
        case measure => simp [Lib.intOf]; omega
    · go_wp2
      go_ret
      exact ⟨rfl, hb0⟩
set_option maxHeartbeats 400000 in
theorem lawEqSInt (a b : Option Addr) (F : List Int) (cap cap' lo lo' : Nat) (w : World) (hF : InL lo w.heap.size w a F) (hG : InL lo' w.heap.size w b F) (hlen : F.length ≤ 1048576) :
    Calls Try.prog 47 #[.slice a F.length cap, .slice b F.length cap'] w fun e w' => e = .returned (.bool true) ∧ Below w.heap.size w w' := by
  have HF := mkHid hF.ints
  have HG := mkHid hG.ints
  clear hF hG
  go_enter Try.func47, Try.ntmps47
  go_wp2
  go_loopw [5] (fun i wr => ∃ k : Nat, k ≤ F.length ∧ i = .int .i64 k ∧ Below w.heap.size w wr) (fun i _ => F.length - (Lib.intOf i).toNat)
  case atStart => exact ⟨0, Nat.zero_le _, rfl, Below.refl _ _⟩
  case round =>
    obtain ⟨k, hk, rfl, hb0⟩ := hrel
    by_cases hlt : k < F.length
    · obtain ⟨a', ea, ha, hc0⟩ := (HF.out.below hb0) k hlt
      obtain ⟨b', eb, hb, hd0⟩ := (HG.out.below hb0) k hlt
      subst ea eb
      generalize F[k] = f at hc0 hd0
      go_wp2
      go_region
      all_goals
        go_wp2
        go_roundw
        case rel => exact ⟨k + 1, by omega, by go_num, hb0.drew⟩
        case measure => simp [Lib.intOf]; omega
    · go_wp2
      go_ret
      exact ⟨rfl, hb0⟩
end Go.Proofs.Ytonnmbkfjiddnaa
