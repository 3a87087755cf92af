
/- SumOf, the specification's side. -/
import Derived.Test.YtgabjiamabbheaaGreatDoorChecked
import Derived.Test.YtgabjiamabbheaaGreatDoorSumPlain
import Derived.Test.YtgabjiamabbheaaGreatDoorFoldPlain
import Derived.WalkKit
import Derived.WalkLawsBesides
import Derived.WalkSpells
import Derived.WalkSmall
import Derived.Below
import Derived.Test.YtgabjiamabbheaaGreatDoorCells
import Derived.Test.YtgabjiamabbheaaGreatDoorBytes
import Derived.Lib.Agree
import Derived.Lib.QuietBelow
import Derived.Deep.QuietTactic
import Derived.BigQuiet
import Derived.Deep.RegionWith
namespace Go.Proofs.YtgabjiamabbheaaGreatDoor
open Go.RowKit Go.Lib
abbrev keyV (d s : ByteArray) (x y : Int) : Value := .agg #[.string d, .string s, .int .i64 x, .int .i64 y]
def keyOk (x y : Int) : Bool := decide (1 ≤ x) && (decide (x < 2147483647) && (decide (1 ≤ y) && decide (y < 2147483647)))
set_option maxRecDepth 20000 in
theorem keyOk_iff (x y : Int) : keyOk x y = true ↔ 1 ≤ x ∧ x < 2147483647 ∧ 1 ≤ y ∧ y < 2147483647 := by
  unfold keyOk
  simp only [Bool.and_eq_true, decide_eq_true_eq]
set_option maxRecDepth 20000 in
set_option maxHeartbeats 1000000 in
theorem specKey (d s : ByteArray) (x y : Int) (w : World) : Calls Tryz.prog 38 #[keyV d s x y] w fun e w' => e = .returned (.bool (keyOk x y)) ∧ Below w.heap.size w w' := by
  have hA : ∀ ob, Below w.heap.size w (w.alloc ob) := fun ob => (Below.refl _ _).alloc (Nat.le_refl _) _
  unfold keyOk
  by_cases h1 : 1 ≤ x
  · by_cases h2 : x < 2147483647
    · by_cases h3 : 1 ≤ y
      · rw [decide_eq_true h1, decide_eq_true h2, decide_eq_true h3, Bool.true_and, Bool.true_and, Bool.true_and]
        go_enter Tryz.func38, Tryz.ntmps38
        go_wp2
        go_ret
        exact ⟨rfl, hA _⟩
      · rw [decide_eq_false h3, Bool.false_and, Bool.and_false, Bool.and_false]
        go_enter Tryz.func38, Tryz.ntmps38
        go_wp2
        go_ret
        exact ⟨rfl, hA _⟩
    · rw [decide_eq_false h2, Bool.false_and, Bool.and_false]
      go_enter Tryz.func38, Tryz.ntmps38
      go_wp2
      go_ret
      exact ⟨rfl, hA _⟩
  · rw [decide_eq_false h1, Bool.false_and]
    go_enter Tryz.func38, Tryz.ntmps38
    go_wp2
    go_ret
    exact ⟨rfl, hA _⟩
abbrev sumV (a b : Nat) : Value := .agg #[.int .i64 a, .int .i64 b]
/-- The world that the specification's SumOf begins in: its key's block, its result's. -/
abbrev sumW (d s : ByteArray) (x y : Int) (w : World) : World := (w.alloc (.cells #[.string d, .string s, .int .i64 x, .int .i64 y] 29)).alloc (.cells #[.int .i64 0, .int .i64 0] 44)
set_option maxRecDepth 20000 in
theorem sumW_facts (d s : ByteArray) (x y : Int) (w : World) : (sumW d s x y w).heap[w.heap.size]? = some (.cells #[.string d, .string s, .int .i64 x, .int .i64 y] 29 (0, 0)) ∧ (sumW d s x y w).heap[w.heap.size + 1]? = some (.cells #[.int .i64 0, .int .i64 0] 44 (0, 0)) ∧
    (sumW d s x y w).heap.size = w.heap.size + 2 ∧ Below w.heap.size w (sumW d s x y w) := by
  refine ⟨?_, ?_, by simp, ((Below.refl _ _).alloc (Nat.le_refl _) _).alloc (by simp) _⟩
  · exact (heap_alloc_old _ _ _ (by simp)).trans (heap_alloc_at _ _)
  · have := heap_alloc_at (w.alloc (.cells #[.string d, .string s, .int .i64 x, .int .i64 y] 29)) (.cells #[.int .i64 0, .int .i64 0] 44)
    simpa using this
set_option maxRecDepth 20000 in
theorem retSum (w wr : World) (tmps : Array Value) (cs : Array Value) (hp : tmps.getD 4 undef = .pointer (some ⟨w.heap.size + 1, 0, none⟩)) {old : Array Value} (hres : wr.heap[w.heap.size + 1]? = some (.cells old 44 (0, 0))) (hb : Below w.heap.size w wr) (h2 : cs.size = 2 := by rfl) :
    bodyPost Tryz.prog Tryz.f14 (fun e w' => e = .returned (.agg cs) ∧ Below w.heap.size w w') Exit.ret { tmps := tmps, defers := [] } (wr.setRow (w.heap.size + 1) cs) := by
  refine bodyPost_ret (v := .agg cs) (results_cell_row Tryz.results14 _ _ (w.heap.size + 1) 44 _ (0, 0) _ hp (setRow_heap _ _ _ _ _ _ hres) Tryz.underlying44 rfl ?_) rfl ⟨rfl, hb.grown (grown_setRow _ _ _) hb.size (fun j hj => by cases hj; omega)⟩
  rw [h2]
  kernel_rfl
set_option maxRecDepth 20000 in
set_option maxHeartbeats 1000000 in
theorem specSumBad (d s t : ByteArray) (x y : Int) (w : World) (ht : t.size ≤ 1100000) (h : keyOk x y = false ∨ 200000 < t.size) :
    Calls Tryz.prog 14 #[keyV d s x y, .string t] w fun e w' => e = .returned (sumV 0 0) ∧ Below w.heap.size w w' := by
  have hK := specKey d s x y
  obtain ⟨f0, f1, f2, f3⟩ := sumW_facts d s x y w
  cases hk : keyOk x y
  · rw [hk] at hK
    clear h
    go_enter Tryz.func14, Tryz.ntmps14
    go_wp2_with fail
    refine (hK _).mono ?_
    rintro e w2 ⟨rfl, hb2⟩
    have hres := (hb2.block (w.heap.size + 1) (by rw [f2]; omega)).trans f1
    have hbw := f3.trans (hb2.mono f3.size)
    clear hK f0 f1 hb2
    go_wp2_with (first | (refine wpL_store_row rfl 44 _ _ rfl (w.heap.size + 1) #[.int .i64 0, .int .i64 0] rfl rfl 44 _ hres (by kernel_rfl) rfl (by simp [Value.oneCell']) ?_) | go_in)
    exact retSum _ _ _ _ rfl hres hbw
  · have hl : 200000 < t.size := by rcases h with h | h; rw [hk] at h; cases h; exact h
    rw [hk] at hK
    clear h
    go_enter Tryz.func14, Tryz.ntmps14
    go_wp2_with fail
    refine (hK _).mono ?_
    rintro e w2 ⟨rfl, hb2⟩
    have hres := (hb2.block (w.heap.size + 1) (by rw [f2]; omega)).trans f1
    have hbw := f3.trans (hb2.mono f3.size)
    clear hK f0 f1 hb2
    go_wp2_with (first | (refine wpL_store_row rfl 44 _ _ rfl (w.heap.size + 1) #[.int .i64 0, .int .i64 0] rfl rfl 44 _ hres (by kernel_rfl) rfl (by simp [Value.oneCell']) ?_) | go_in)
    exact retSum _ _ _ _ rfl hres hbw
set_option maxRecDepth 20000 in
theorem wi64 (x : Int) (h0 : -9223372036854775808 ≤ x) (h1 : x ≤ 9223372036854775807) : IntKind.i64.wrap x = x := by
  unfold IntKind.wrap
  simp [IntKind.bits, IntKind.signed]
  omega
set_option maxRecDepth 20000 in
theorem mul_bound (a A : Nat) (ha : a < 2147483647) (hA : A < 2147483647) : a * A ≤ 4611686009837453316 := by
  have := Nat.mul_le_mul (show a ≤ 2147483646 by omega) (show A ≤ 2147483646 by omega)
  omega
set_option maxRecDepth 10000 in
set_option maxHeartbeats 2000000 in
theorem specSum (d s t : ByteArray) (A B : Nat) (w : World) (ht : t.size ≤ 200000) (hA0 : 1 ≤ A) (hA : A < 2147483647) (hB0 : 1 ≤ B) (hB : B < 2147483647) :
    Calls Tryz.prog 14 #[keyV d s A B, .string t] w fun e w' => e = .returned (sumV (Ps.sm A 1 t.data.toList) (Ps.sm B 1 t.data.toList)) ∧ Below w.heap.size w w' := by
  have hK := specKey d s A B
  rw [show keyOk (A : Int) (B : Int) = true from (keyOk_iff _ _).2 (by omega)] at hK
  obtain ⟨f0, f1, f2, f3⟩ := sumW_facts d s A B w
  obtain ⟨RA, hRA⟩ : ∃ R, Ps.sm A 1 t.data.toList = R := ⟨_, rfl⟩
  obtain ⟨RB, hRB⟩ : ∃ R, Ps.sm B 1 t.data.toList = R := ⟨_, rfl⟩
  have HRA : Hid (Ps.sm A 1 (t.data.toList.drop 0) = RA) := hRA
  have HRB : Hid (Ps.sm B 1 (t.data.toList.drop 0) = RB) := hRB
  rw [hRA, hRB]
  clear hRA hRB
  go_enter Tryz.func14, Tryz.ntmps14
  go_wp2_with fail
  refine (hK _).mono ?_
  rintro e w2 ⟨rfl, hb2⟩
  have hres := (hb2.block (w.heap.size + 1) (by rw [f2]; omega)).trans f1
  have hkey := (hb2.block w.heap.size (by rw [f2]; omega)).trans f0
  have hbw := f3.trans (hb2.mono f3.size)
  have k2 : w2.cell? ⟨w.heap.size, 2, none⟩ = some (.int .i64 A) := by simp [World.cell?, hkey]
  have k3 : w2.cell? ⟨w.heap.size, 3, none⟩ = some (.int .i64 B) := by simp [World.cell?, hkey]
  have Hbw : Hid (Below w.heap.size w w2) := hbw
  have Hres : Hid (w2.heap[w.heap.size + 1]? = some (.cells #[.int .i64 0, .int .i64 0] 44 (0, 0))) := hres
  clear hK f0 f1 f2 f3 hb2 hkey hres hbw
  go_wp2
  go_loopw [5, 6, 7] (fun u v i wr => ∃ (k a b : Nat), k ≤ t.size ∧ i = .int .i64 k ∧ u = .int .i64 a ∧ v = .int .i64 b ∧ a < 2147483647 ∧ b < 2147483647 ∧ Hid (Ps.sm A a (t.data.toList.drop k) = RA) ∧ Hid (Ps.sm B b (t.data.toList.drop k) = RB) ∧ Hid (Below w2.heap.size w2 wr)) (fun _ _ i _ => t.size - (Lib.intOf i).toNat)
  case atStart => exact ⟨0, 1, 1, Nat.zero_le _, rfl, rfl, rfl, by omega, by omega, HRA, HRB, Below.refl _ _⟩
  case round =>
    clear HRA HRB
    obtain ⟨k, a, b, hk, rfl, rfl, rfl, ha, hb, HRA, HRB, HB⟩ := hrel
    have q2 := (HB.out.cell (World.block_lt_of_cell? _ _ k2)).trans k2
    have q3 := (HB.out.cell (World.block_lt_of_cell? _ _ k3)).trans k3
    have hresw := (HB.out.block _ (heap_lt Hres.out)).trans Hres.out
    have hbww := Hbw.out.trans (HB.out.mono Hbw.out.size)
    by_cases hlt : k < t.size
    · have h8 : t[k].toNat < 256 := UInt8.toNat_lt _
      have hma := mul_bound a A ha hA
      have hmb := mul_bound b B hb hB
      have stepA : Hid (Ps.sm A ((a * A + t[k].toNat + 1) % 2147483647) (t.data.toList.drop (k + 1)) = RA) := by
        have := HRA.out
        rw [List.drop_eq_getElem_cons (by simpa using hlt), Ps.sm] at this
        exact this
      have stepB : Hid (Ps.sm B ((b * B + t[k].toNat + 1) % 2147483647) (t.data.toList.drop (k + 1)) = RB) := by
        have := HRB.out
        rw [List.drop_eq_getElem_cons (by simpa using hlt), Ps.sm] at this
        exact this
      generalize hc : t[k].toNat = c at *
      obtain ⟨pa, hpa⟩ : ∃ pa, a * A = pa := ⟨_, rfl⟩
      obtain ⟨pb, hpb⟩ : ∃ pb, b * B = pb := ⟨_, rfl⟩
      rw [hpa] at stepA hma
      rw [hpb] at stepB hmb
      have ea : (a : Int) * (A : Int) = (pa : Int) := by rw [← hpa]; rfl
      have eb : (b : Int) * (B : Int) = (pb : Int) := by rw [← hpb]; rfl
      have la : (pa + c + 1) % 2147483647 < 2147483647 := Nat.mod_lt _ (by omega)
      have lb : (pb + c + 1) % 2147483647 < 2147483647 := Nat.mod_lt _ (by omega)
      clear HRA HRB hpa hpb
      go_wp2
      go_quiet (fail)
      obtain ⟨V, hV⟩ : ∃ V, V = wr.drewN nq := ⟨_, rfl⟩
      have HBV : Hid (Below w2.heap.size w2 V) := by rw [hV]; exact below_drewN HB.out _
      have v3 : V.cell? ⟨w.heap.size, 3, none⟩ = some (.int .i64 B) := by rw [hV]; exact q3
      rw [← hV]
      clear hV q2 q3
      go_wp2
      go_quiet (fail)
      have HBV2 : Hid (Below w2.heap.size w2 (V.drewN nq)) := below_drewN HBV.out _
      go_wp2
      go_roundw
      case rel => exact ⟨k + 1, (pa + c + 1) % 2147483647, (pb + c + 1) % 2147483647, by omega, by go_num, by first | rfl | (congr 1; omega), by first | rfl | (congr 1; omega), la, lb, stepA, stepB, HBV2⟩
      case measure => simp [Lib.intOf]; omega
    · have ea : a = RA := by
        rw [← HRA.out, List.drop_eq_nil_of_le (by simp; omega)]; rfl
      have eb : b = RB := by
        rw [← HRB.out, List.drop_eq_nil_of_le (by simp; omega)]; rfl
      subst ea eb
      clear HRA HRB
      go_wp2_with (first | (refine wpL_store_row rfl 44 _ _ rfl (w.heap.size + 1) #[.int .i64 a, .int .i64 b] rfl rfl 44 _ hresw (by kernel_rfl) rfl (by simp [Value.oneCell']) ?_) | go_in)
      exact retSum _ _ _ _ rfl hresw hbww
end Go.Proofs.YtgabjiamabbheaaGreatDoor
