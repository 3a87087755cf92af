
/- Lists of fields in memory: read, made anew, held against one another. -/
import Derived.Test.YtmmdicndjebbjaaBlank
import Derived.Laws.MakeOwn
import Derived.Laws.OwnMore
import Derived.Deep.QuietTactic
import Derived.BigQuiet
import Derived.Deep.RegionWith
namespace Go.Proofs.Ytmmdicndjebbjaa
open Go.RowKit Go.Lib
theorem mkHid {p : Prop} (h : p) : Hid p := h
abbrev Fd := ByteArray × ByteArray
/-- The slice's elements, below a block, are these fields. -/
def Fld (B : Nat) (w : World) (o : Option Addr) (F : List Fd) : Prop :=
  ∀ i (h : i < F.length), ∃ a, o = some a ∧ a.block < B ∧ w.cell? (a.add (i * 2)) = some (.string F[i].1) ∧ w.cell? ⟨(a.add (i * 2)).block, (a.add (i * 2)).off + 1, none⟩ = some (.string F[i].2)
theorem add_block (a : Addr) (n : Nat) : (a.add n).block = a.block := by unfold Addr.add; split <;> rfl
theorem Fld.below {B : Nat} {w w' : World} {o : Option Addr} {F : List Fd} (h : Fld B w o F) (hb : Below B w w') : Fld B w' o F := by
  intro i hi
  obtain ⟨a, ho, ha, h0, h1⟩ := h i hi
  exact ⟨a, ho, ha, (hb.cell (by rw [add_block]; exact ha)).trans h0, (hb.cell (p := ⟨(a.add (i * 2)).block, (a.add (i * 2)).off + 1, none⟩) (show (a.add (i * 2)).block < B from by rw [add_block]; exact ha)).trans h1⟩
theorem Fld.mono {B B' : Nat} {w : World} {o : Option Addr} {F : List Fd} (h : Fld B w o F) (hB : B ≤ B') : Fld B' w o F := by
  intro i hi
  obtain ⟨a, ho, ha, h0, h1⟩ := h i hi
  exact ⟨a, ho, by omega, h0, h1⟩
set_option maxHeartbeats 400000 in
theorem lawSzField (n v : ByteArray) (left : Nat) (w : World) (hn : n.size ≤ maxLen) (hv : v.size ≤ maxLen) (hl : left ≤ 1048576) :
    Calls Try.prog 9 #[.agg #[.string n, .string v], .int .i64 left] w fun e w' => ∃ r : Int, e = .returned (.int .i64 r) ∧ (r = -1 ∨ ∃ m : Nat, r = m ∧ m ≤ left ∧ n.size ≤ left ∧ v.size ≤ left) ∧ Below w.heap.size w w' := by
  unfold maxLen at hn hv
  by_cases h1 : left < n.size
  · go_enter Try.func9, Try.ntmps9
    go_wp2
    go_ret
    exact ⟨-1, rfl, .inl rfl, (Below.refl _ _).alloc (Nat.le_refl _) _⟩
  · by_cases h2 : left < n.size + v.size
    · go_enter Try.func9, Try.ntmps9
      go_wp2
      go_ret
      exact ⟨-1, rfl, .inl rfl, (Below.refl _ _).alloc (Nat.le_refl _) _⟩
    · go_enter Try.func9, Try.ntmps9
      go_wp2
      go_ret
      exact ⟨_, rfl, .inr ⟨left - n.size - v.size, by omega, by omega, by omega, by omega⟩, (Below.refl _ _).alloc (Nat.le_refl _) _⟩
set_option maxHeartbeats 1000000 in
theorem lawSzFieldS (o : Option Addr) (F : List Fd) (cap : Nat) (w : World) (hF : Fld w.heap.size w o F) (hlen : F.length ≤ maxLen) (hsz : ∀ f ∈ F, f.1.size ≤ maxLen ∧ f.2.size ≤ maxLen) :
    Calls Try.prog 4 #[.slice o F.length cap, .int .i64 1048576] w fun e w' => ∃ r : Int, e = .returned (.int .i64 r) ∧ Hid (r = -1 ∨ 0 ≤ r ∧ F.length ≤ 1048576 ∧ ∀ f ∈ F, f.1.size ≤ 1048576 ∧ f.2.size ≤ 1048576) ∧ Below w.heap.size w w' := by
  unfold maxLen at hlen
  by_cases hn : 1048576 < F.length
  · go_enter Try.func4, Try.ntmps4
    go_wp2
    go_ret
    exact ⟨-1, rfl, Or.inl rfl, Below.refl _ _⟩
  · have HF : Hid (Fld w.heap.size w o F) := hF
    have Hsz : Hid (∀ f ∈ F, f.1.size ≤ maxLen ∧ f.2.size ≤ maxLen) := hsz
    clear hF hsz
    go_enter Try.func4, Try.ntmps4
    go_wp2
    go_loopw [1, 5] (fun l i wr => ∃ (k m : Nat), k ≤ F.length ∧ i = .int .i64 k ∧ m ≤ 1048576 ∧ l = .int .i64 m ∧ Hid (∀ j (h : j < F.length), j < k → F[j].1.size ≤ 1048576 ∧ F[j].2.size ≤ 1048576) ∧ Below w.heap.size w wr) (fun _ i _ => F.length - (Lib.intOf i).toNat)
    case atStart => exact ⟨0, 1048576 - F.length, Nat.zero_le _, rfl, by omega, by go_num, fun j h h0 => absurd h0 (Nat.not_lt_zero _), Below.refl _ _⟩
    case round =>
      obtain ⟨k, m, hk, rfl, hm, rfl, hall, hb⟩ := hrel
      by_cases hlt : k < F.length
      · obtain ⟨a, rfl, ha, hc0, hc1⟩ := (HF.out.below hb) k hlt
        obtain ⟨hs0, hs1⟩ := Hsz.out F[k] (List.getElem_mem _)
        have Hk : Hid (F[k] = F[k]) := rfl
        generalize hf : F[k] = f at hc0 hc1 hs0 hs1
        have Hf : Hid (F[k] = f) := hf
        clear hf Hk
        go_wp2_with fail
        refine (lawSzField f.1 f.2 m _ hs0 hs1 hm).mono ?_
        rintro e w1 ⟨r, rfl, hr, hb1⟩
        rcases hr with rfl | ⟨m', rfl, hm', hs2, hs3⟩
        · go_wp2
          go_ret
          exact ⟨-1, rfl, Or.inl rfl, hb.trans (hb1.mono hb.size)⟩
        · go_wp2
          go_roundw
          case rel =>
            refine ⟨k + 1, m', by omega, by go_num, by omega, rfl, ?_, hb.trans (hb1.mono hb.size)⟩
            intro j h hj
            by_cases hjk : j < k
            · exact hall.out j h hjk
            · have : j = k := by omega
              subst this
              rw [Hf.out]
              exact ⟨by omega, by omega⟩
          case measure => simp [Lib.intOf]; omega
      · go_wp2
        go_ret
        refine ⟨m, rfl, Or.inr ⟨by omega, by omega, ?_⟩, hb⟩
        intro f hf
        obtain ⟨j, hj, rfl⟩ := List.getElem_of_mem hf
        exact hall.out j hj (by omega)
theorem lawToField (n v : ByteArray) (w : World) :
    Calls Try.prog 11 #[.agg #[.string n, .string v]] w fun e w' => e = .returned (.agg #[.string n, .string v]) ∧ Below w.heap.size w w' := by
  go_enter Try.func11, Try.ntmps11
  go_wp2
  refine bodyPost_ret (v := .agg #[.string n, .string v]) (by simp [results, Try.results11, go_sem]) rfl ⟨rfl, ?_⟩
  exact (((Below.refl _ _).alloc (Nat.le_refl _) _).alloc (by simp) _).alloc (by simp; omega) _
theorem Try.info43 : (Try.prog.info? 33).map (fun i => (i.zero, i.size, i.bytes)) = some (some (.agg #[.string ⟨#[]⟩, .string ⟨#[]⟩]), 2, 32) := by kernel_rfl
set_option maxHeartbeats 1000000 in
theorem lawToFieldS (o : Option Addr) (F : List Fd) (cap : Nat) (w : World) (hF : Fld w.heap.size w o F) (hlen : F.length ≤ 1048576) :
    Calls Try.prog 6 #[.slice o F.length cap] w fun e w' => e = .returned (.slice (some ⟨w.heap.size, 0, none⟩) F.length F.length) ∧ Hid (Fld w'.heap.size w' (some ⟨w.heap.size, 0, none⟩) F) ∧ Below w.heap.size w w' := by
  obtain ⟨i0, hi, hy0, hy1, hy2⟩ := info_parts Try.info43
  have hmk := run_make (P := Try.prog) w 25 33 i0 _ Try.underlying25 hi hy0 .i64 .i64 F.length F.length (by omega) (Int.le_refl _) (by rw [hy2]; omega) (by omega)
  simp only [Int.toNat_natCast, hy1] at hmk
  have HF : Hid (Fld w.heap.size w o F) := hF
  clear hF
  have hown0 : (w.alloc (.cells (madeCells (Value.agg #[.string ⟨#[]⟩, .string ⟨#[]⟩]).cells (F.length * 2)) 33)).ownsRow w.heap.size 33 2 (.slice (some ⟨w.heap.size, 0, none⟩) F.length F.length) F.length (madeCells (Value.agg #[.string ⟨#[]⟩, .string ⟨#[]⟩]).cells (F.length * 2)).toList :=
    World.ownsRow_lit w _ F.length (Nat.le_refl _) (by unfold maxLen; omega) (size_madeCells _ _)
  have Hown0 : Hid (∃ xs, (w.alloc (.cells (madeCells (Value.agg #[.string ⟨#[]⟩, .string ⟨#[]⟩]).cells (F.length * 2)) 33)).ownsRow w.heap.size 33 2 (.slice (some ⟨w.heap.size, 0, none⟩) F.length F.length) F.length xs) := ⟨_, hown0⟩
  clear hown0
  go_enter Try.func6, Try.ntmps6
  go_wp2
  go_loopw [4] (fun i wr => ∃ (k : Nat) (xs : List Value), k ≤ F.length ∧ i = .int .i64 k ∧ wr.ownsRow w.heap.size 33 2 (.slice (some ⟨w.heap.size, 0, none⟩) F.length F.length) F.length xs ∧
      Hid (∀ j (h : j < F.length), j < k → xs[j * 2]? = some (.string F[j].1) ∧ xs[j * 2 + 1]? = some (.string F[j].2)) ∧ Below w.heap.size w wr) (fun i _ => F.length - (Lib.intOf i).toNat)
  case atStart =>
    obtain ⟨xs, hx⟩ := Hown0.out
    exact ⟨0, xs, Nat.zero_le _, rfl, hx, fun j h h0 => absurd h0 (Nat.not_lt_zero _), (Below.refl _ _).alloc (Nat.le_refl _) _⟩
  case round =>
    clear Hown0
    obtain ⟨k, xs, hk, rfl, hown, hall, hb⟩ := hrel
    by_cases hlt : k < F.length
    · obtain ⟨a, rfl, ha, hc0, hc1⟩ := (HF.out.below hb) k hlt
      generalize hf : F[k] = f at hc0 hc1
      have Hf : Hid (F[k] = f) := hf
      clear hf
      go_wp2_with fail
      refine (lawToField f.1 f.2 _).mono ?_
      rintro e w1 ⟨rfl, hb1⟩
      have hsz1 := hown.lt w.heap.size rfl
      have hown1 : w1.ownsRow w.heap.size 33 2 (.slice (some ⟨w.heap.size, 0, none⟩) F.length F.length) F.length xs := by
        obtain ⟨h1, h2⟩ := hown
        refine ⟨h1, ?_⟩
        rcases h2 with h2 | ⟨g, cap, cur, e1, e2, e3, e4⟩
        · exact .inl h2
        · refine .inr ⟨g, cap, cur, e1, e2, ?_, e4⟩
          rw [hb1.block g (by cases e1; exact hsz1.2)]
          exact e3
      have hl : xs.length = F.length * 2 := hown.1
      have d0 : w1.cell? ⟨w.heap.size, k * 2, none⟩ = some (xs[k * 2]'(by omega)) := by rw [hown1.cellAt (k * 2) (by omega)]; exact List.getElem?_eq_getElem _
      have d1 : w1.cell? ⟨w.heap.size, k * 2 + 1, none⟩ = some (xs[k * 2 + 1]'(by omega)) := by rw [hown1.cellAt (k * 2 + 1) (by omega)]; exact List.getElem?_eq_getElem _
      have z0 := hown1.frozenAt (k * 2)
      have z1 := hown1.frozenAt (k * 2 + 1)
      generalize xs[k * 2]'(by omega) = y0 at d0
      generalize xs[k * 2 + 1]'(by omega) = y1 at d1
      have hadd := add_off w.heap.size (k * 2)
      go_wp2
      go_roundw
      case rel =>
        refine ⟨k + 1, (xs.set (k * 2) (.string f.1)).set (k * 2 + 1) (.string f.2), by omega, by go_num, ((hown1.stored _ _).1.stored _ _).1, ?_, ((hb.trans (hb1.mono hb.size)).setCell (Nat.le_refl _) _).setCell (Nat.le_refl _) _⟩
        intro j h hj
        by_cases hjk : j < k
        · obtain ⟨e0, e1⟩ := hall.out j h hjk
          rw [List.getElem?_set_ne (by omega), List.getElem?_set_ne (by omega), List.getElem?_set_ne (by omega), List.getElem?_set_ne (by omega)]
          exact ⟨e0, e1⟩
        · have : j = k := by omega
          subst this
          rw [List.getElem?_set_ne (by omega), List.getElem?_set_self (by omega), List.getElem?_set_self (by rw [List.length_set]; omega), Hf.out]
          exact ⟨rfl, rfl⟩
      case measure => simp [Lib.intOf]; omega
    · go_wp2
      go_ret
      refine ⟨rfl, ?_, hb⟩
      intro j hj
      obtain ⟨h0, h1⟩ := hall.out j hj (by omega)
      refine ⟨_, rfl, (hown.lt w.heap.size rfl).2, ?_, ?_⟩
      · exact hown.cells (g := w.heap.size) rfl _ _ h0
      · have := hown.cells (g := w.heap.size) rfl _ _ h1
        rw [add_off] at this ⊢
        exact this
set_option maxHeartbeats 400000 in
theorem lawEqField (n v : ByteArray) (w : World) :
    Calls Try.prog 14 #[.agg #[.string n, .string v], .agg #[.string n, .string v]] w fun e w' => e = .returned (.bool true) ∧ Below w.heap.size w w' := by
  go_enter Try.func14, Try.ntmps14
  go_wp2
  go_ret
  exact ⟨rfl, ((Below.refl _ _).alloc (Nat.le_refl _) _).alloc (by simp) _⟩
set_option maxHeartbeats 1000000 in
theorem lawEqFieldS (a b : Addr) (F : List Fd) (cap cap' : Nat) (w : World) (hF : Fld w.heap.size w (some a) F) (hG : Fld w.heap.size w (some b) F) (hlen : F.length ≤ 1048576) :
    Calls Try.prog 8 #[.slice (some a) F.length cap, .slice (some b) F.length cap'] w fun e w' => e = .returned (.bool true) ∧ Below w.heap.size w w' := by
  have HF : Hid (Fld w.heap.size w (some a) F) := hF
  have HG : Hid (Fld w.heap.size w (some b) F) := hG
  clear hF hG
  go_enter Try.func8, Try.ntmps8
  go_wp2
  go_loopw [5] (fun i wr => ∃ k : Nat, k ≤ F.length ∧ i = .int .i64 k ∧ Below w.heap.size w wr) (fun i _ => F.length - (Lib.intOf i).toNat)
  case atStart => exact ⟨0, Nat.zero_le _, rfl, Below.refl _ _⟩
  case round =>
    obtain ⟨k, hk, rfl, hb⟩ := hrel
    by_cases hlt : k < F.length
    · obtain ⟨a', ea, ha, hc0, hc1⟩ := (HF.out.below hb) k hlt
      obtain ⟨b', eb, hb', hd0, hd1⟩ := (HG.out.below hb) k hlt
      cases ea
      cases eb
      generalize hf : F[k] = f at hc0 hc1 hd0 hd1
      clear hf
      have hq : Hid (∀ w, Calls Try.prog 14 #[.agg #[.string f.1, .string f.2], .agg #[.string f.1, .string f.2]] w fun e w' => e = .returned (.bool true) ∧ Below w.heap.size w w') := lawEqField f.1 f.2
      go_wp2_with fail
      go_region_with (go_at_call 14; (refine (hq.out _).mono ?_; rintro e w2 ⟨rfl, hb2⟩))
      all_goals
        have hbw := mkHid (hb.drew.trans (hb2.mono hb.size))
        go_wp2
        go_roundw
        case rel => exact ⟨k + 1, by omega, by go_num, hbw.out⟩
        case measure => simp [Lib.intOf]; omega
    · go_wp2
      go_ret
      exact ⟨rfl, hb⟩
end Go.Proofs.Ytmmdicndjebbjaa
