
/- A point taken from bytes, the specification's side: utf-8 and utf-16. -/

/- A point taken from bytes: both sides find the same. -/

/- Decode, the specification's side. -/
import Derived.Test.YtajkahpkbeobaaaGreatDoorDcGuess
import Derived.Test.YtajkahpkbeobaaaGreatDoorDcTake
import Derived.Test.YtajkahpkbeobaaaGreatDoorWdSpec1
namespace Go.Proofs.YtajkahpkbeobaaaGreatDoor
open Go.RowKit Go.Lib
namespace Pd
def gs (set : Int) (l : List UInt8) : Int := if set = 4 then Pu.guessN l else guess16 l
set_option maxRecDepth 20000 in
theorem gs4 (l : List UInt8) : Pu.guessN l = gs 4 l := by unfold gs; rw [if_pos rfl]
set_option maxRecDepth 20000 in
theorem gs5 (l : List UInt8) : guess16 l = gs 5 l := by unfold gs; rw [if_neg (by decide)]
def ft (set : Int) (l : List UInt8) : Bool := decide (0 ≤ gs set l) && decide (Pl.form set (gs set l) = l)
def tkFrom (set : Int) (l : List UInt8) : Nat → Nat → Option (Int × Nat)
  | 0, _ => none
  | f + 1, k => if k ≤ l.length ∧ ft set (l.take k) = true then some (gs set (l.take k), k) else tkFrom set l f (k + 1)
end Pd
set_option maxRecDepth 20000 in
theorem tkFrom_short (set : Int) (l : List UInt8) : ∀ (f k : Nat), l.length < k → Pd.tkFrom set l f k = none
  | 0, _, _ => rfl
  | f + 1, k, h => by
    unfold Pd.tkFrom
    rw [if_neg (by omega)]
    exact tkFrom_short set l f (k + 1) (by omega)
set_option maxRecDepth 20000 in
theorem ext_takeD (s : ByteArray) (a n : Nat) : (s.extract a (a + n)).data.toList = (s.data.toList.drop a).take n := by
  simp [ByteArray.data_extract, Array.toList_extract]
set_option maxRecDepth 20000 in
set_option maxHeartbeats 2000000 in
theorem specTakeD4 (s : ByteArray) (a : Nat) (w : World) (ha : a < s.size) (hs : s.size ≤ 100000) :
    Calls Tryz.prog 86 #[.int .i64 4, .string s, .int .i64 a] w fun e w' => e = .returned (tkV (Pd.tkFrom 4 (s.data.toList.drop a) 4 1)) ∧ Below w.heap.size w w' := by
  have h8 : s[a].toNat < 256 := UInt8.toNat_lt _
  obtain ⟨Z, HZ⟩ : ∃ Z, Hid (Pd.tkFrom 4 (s.data.toList.drop a) 4 1 = Z) := ⟨_, rfl⟩
  rw [HZ.out]
  go_enter Tryz.func86, Tryz.ntmps86
  go_wp2
  go_loopw [9, 10] (fun n _ wr => ∃ k : Nat, 1 ≤ k ∧ k ≤ 5 ∧ n = .int .i64 k ∧ Hid (Pd.tkFrom 4 (s.data.toList.drop a) (5 - k) k = Z) ∧ Below w.heap.size w wr) (fun n _ _ => 5 - (Lib.intOf n).toNat)
  case atStart => exact ⟨1, Nat.le_refl _, by omega, rfl, HZ.out, Below.refl _ _⟩
  case round =>
    obtain ⟨k, hk1, hk5, rfl, hp, hb⟩ := hrel
    by_cases h4 : k ≤ 4
    · by_cases hend : a + k ≤ s.size
      · have cG := fun w => specGuess8 (s.extract a (a + k)) (by rw [ByteArray.size_extract]; omega) (by rw [ByteArray.size_extract]; omega) w
        have hx := ext_takeD s a k
        rw [hx, Pd.gs4] at cG
        have hstep : Hid (Pd.tkFrom 4 (s.data.toList.drop a) (5 - k) k = if Pd.ft 4 ((s.data.toList.drop a).take k) = true then some (Pd.gs 4 ((s.data.toList.drop a).take k), k) else Pd.tkFrom 4 (s.data.toList.drop a) (5 - (k + 1)) (k + 1)) := show _ = _ from by
          rw [show 5 - k = (5 - (k + 1)) + 1 from by omega]
          conv => lhs; unfold Pd.tkFrom
          simp only [show k ≤ (s.data.toList.drop a).length from by simp; omega, true_and]
        generalize hL : (s.data.toList.drop a).take k = L at *
        by_cases hneg : Pd.gs 4 L < 0
        · have hfit : Pd.ft 4 L = false := by unfold Pd.ft; rw [decide_eq_false (by omega), Bool.false_and]
          have hnext : Hid (Pd.tkFrom 4 (s.data.toList.drop a) (5 - (k + 1)) (k + 1) = Z) := show _ = _ from by
            rw [← hp.out, hstep.out, hfit]
            rfl
          clear hp hstep HZ
          obtain ⟨b, hbq⟩ : ∃ b, decide ((0 : Int) ≤ Pd.gs 4 L) = b := ⟨_, rfl⟩
          have Hb : Hid (b = false) := show _ = _ from by rw [← hbq]; simp; omega
          generalize Pd.gs 4 L = p at *
          clear hfit hneg hL hx
          go_wp2_with fail
          refine (cG _).mono ?_
          rintro e w1 ⟨rfl, hb1⟩
          have hbw := mkHid (hb.trans (hb1.mono hb.size))
          go_wp2
          refine wp_region_quiet_below (by kernel_rfl) (by kernel_rfl) ?_
          quiet_step (fail)
          quiet_step (fail)
          clear hbq
          quiet_step (fail)
          iterate 11 (refine BigFrame.wpQuiet_skip (by obtain rfl : b = false := Hb.out; rfl) ?_; go_simp)
          obtain rfl : b = false := Hb.out
          repeat (quiet_step (fail))
          refine wpQuiet_nil ?_
          rintro ⟨dq, osq⟩
          have hbq := hbw.out.trans ((below_regrown w1 dq osq).mono hbw.out.size)
          generalize Go.Sort.grow (redrawn w1 dq) osq = wq at *
          go_wp2
          go_roundw
          case rel => exact ⟨k + 1, by omega, by omega, by go_num, hnext, hbq⟩
          case measure => simp [Lib.intOf]; omega
        · obtain ⟨n, hn⟩ : ∃ n : Nat, Pd.gs 4 L = n := ⟨(Pd.gs 4 L).toNat, by omega⟩
          have hfit : Hid (Pd.ft 4 L = decide (Pl.form 4 (n : Int) = L)) := show _ = _ from by
            unfold Pd.ft
            rw [hn, decide_eq_true (show (0 : Int) ≤ (n : Int) by omega), Bool.true_and]
          have cF : ∀ w : World, Calls Tryz.prog 32 #[.int .i64 4, .int .i64 (Pd.gs 4 L)] w fun e w' => ∃ v, e = .returned v ∧ Own w.heap.size v (Pl.form 4 (n : Int)) w' ∧ Below w.heap.size w w' := by
            rw [hn]
            exact fun w => specForm 4 (n : Int) (by omega) w
          have hbq : decide ((0 : Int) ≤ Pd.gs 4 L) = true := by simp; omega
          generalize Pd.gs 4 L = p at *
          generalize Pl.form 4 (n : Int) = fm at *
          have Hx := mkHid hx
          have Hk : Hid (a + k ≤ s.size) := hend
          clear hneg hn hL hx HZ
          go_wp2_with fail
          refine (cG _).mono ?_
          rintro e w1 ⟨rfl, hb1⟩
          have hbw := mkHid (hb.trans (hb1.mono hb.size))
          clear hb hb1 cG
          have hwr : IntKind.i64.wrap ((a : Int) + (k : Int)) = ((a + k : Nat) : Int) := by rw [w64 _ (by omega) (by omega)]; omega
          have i1 : (a : Int) ≤ ((a + k : Nat) : Int) := by omega
          have i2 : ((a + k : Nat) : Int) ≤ (s.size : Int) := by omega
          go_wp2
          refine wp_region_any (by kernel_rfl) ?_
          refine wpAny_take (i := 0) (v := .int .i64 p) rfl (by kernel_rfl) (by kernel_rfl) (by kernel_rfl) (fun _ _ _ h => h) (Or.inl ⟨by rfl, ?_⟩) ?_
          · intro w
            go_simp
          go_simp
          refine wpAny_take (i := 1) (v := .bool true) rfl (by kernel_rfl) (by kernel_rfl) (by kernel_rfl) (fun _ _ _ h => h) (Or.inl ⟨by rfl, ?_⟩) ?_
          · intro w
            go_simp
          go_simp
          refine wpAny_take (i := 2) (v := .bool true) rfl (by kernel_rfl) (by kernel_rfl) (by kernel_rfl) (fun _ _ _ h => h) (Or.inl ⟨by rfl, ?_⟩) ?_
          · intro w
            go_simp
          go_simp
          refine wpAny_take (i := 3) (v := .int .i64 4) rfl (by kernel_rfl) (by kernel_rfl) (by kernel_rfl) (fun _ _ _ h => h) (Or.inl ⟨by rfl, ?_⟩) ?_
          · intro w
            go_simp
          go_simp
          refine wpAny_take (i := 4) (v := .int .i64 p) rfl (by kernel_rfl) (by kernel_rfl) (by kernel_rfl) (fun _ _ _ h => h) (Or.inl ⟨by rfl, ?_⟩) ?_
          · intro w
            go_simp
          go_simp
          refine wpAny_take (i := 7) (v := .string s) rfl (by kernel_rfl) (by kernel_rfl) (by kernel_rfl) (fun _ _ _ h => h) (Or.inl ⟨by rfl, ?_⟩) ?_
          · intro w
            go_simp
          go_simp
          refine wpAny_take (i := 8) (v := .int .i64 a) rfl (by kernel_rfl) (by kernel_rfl) (by kernel_rfl) (fun _ _ _ h => h) (Or.inl ⟨by rfl, ?_⟩) ?_
          · intro w
            go_simp
          go_simp
          refine wpAny_take (i := 9) (v := .int .i64 a) rfl (by kernel_rfl) (by kernel_rfl) (by kernel_rfl) (fun _ _ _ h => h) (Or.inl ⟨by rfl, ?_⟩) ?_
          · intro w
            go_simp
          go_simp
          refine wpAny_take (i := 10) (v := .int .i64 k) rfl (by kernel_rfl) (by kernel_rfl) (by kernel_rfl) (fun _ _ _ h => h) (Or.inl ⟨by rfl, ?_⟩) ?_
          · intro w
            go_simp
          go_simp
          refine wpAny_take (i := 11) (v := .int .i64 ((a + k : Nat) : Int)) rfl (by kernel_rfl) (by kernel_rfl) (by kernel_rfl) (fun _ _ _ h => h) (Or.inl ⟨by rfl, ?_⟩) ?_
          · intro w
            go_simp
          go_simp
          refine wpAny_take (i := 12) (v := .string (s.extract a (a + k))) rfl (by kernel_rfl) (by kernel_rfl) (by kernel_rfl) (fun _ _ _ h => h) (Or.inl ⟨by rfl, ?_⟩) ?_
          · intro w
            go_simp
            rw [if_pos (by omega), if_pos (by omega), show ((a : Int) + (k : Int)).toNat = a + k from by omega]
          go_simp
          refine wpAny_ready (rs := [5]) (by kernel_rfl) (by simp) ?_
          refine AllReady.cons rfl (fun K hK => ?_) AllReady.nil
          go_simp
          go_wp2_with fail
          refine (cF _).mono ?_
          rintro e w2 ⟨v, rfl, hown, hb2⟩
          have hcv := hown.back (P := Tryz.prog) 35 9 Tryz.underlying35 Tryz.underlying5 Tryz.underlying9
          show K _ w2
          refine hK _ _ ?_
          clear hK K
          go_simp
          obtain ⟨B, hB⟩ : ∃ B, (fm == (s.extract a (a + k)).toList) = B := ⟨_, rfl⟩
          have HB : Hid (B = Pd.ft 4 L) := show _ = _ from by
            rw [← hB, hfit.out, ByteArray.toList_eq, Hx.out]
            show (fm == L) = decide (fm = L)
            by_cases h : fm = L
            · simp [h]
            · rw [decide_eq_false h, beq_eq_false_iff_ne]
              exact h
          refine wpAny_ready (rs := [6]) (by kernel_rfl) (by simp) ?_
          refine AllReady.cons rfl (fun K hK => ?_) AllReady.nil
          go_simp
          refine hK _ _ ?_
          clear hK K
          go_simp
          refine wpAny_take (i := 13) (v := .bool B) rfl (by kernel_rfl) (by kernel_rfl) (by kernel_rfl) (fun _ _ _ h => h) (Or.inl ⟨by rfl, ?_⟩) ?_
          · intro w
            go_simp
          go_simp
          refine wpAny_take (i := 14) (v := .bool B) rfl (by kernel_rfl) (by kernel_rfl) (by kernel_rfl) (fun _ _ _ h => h) (Or.inl ⟨by rfl, ?_⟩) ?_
          · intro w
            go_simp
          go_simp
          refine wpAny_done (by kernel_rfl) ?_ _
          have hbz := mkHid (hbw.out.drew.trans (hb2.mono hbw.out.drew.size))
          clear hb2 hown hcv cF
          cases B
          · have hnext : Hid (Pd.tkFrom 4 (s.data.toList.drop a) (5 - (k + 1)) (k + 1) = Z) := show _ = _ from by
              rw [← hp.out, hstep.out, ← HB.out]
              rfl
            clear hp hstep HB hfit
            go_wp2
            go_roundw
            case rel => exact ⟨k + 1, by omega, by omega, by go_num, hnext, hbz.out⟩
            case measure => simp [Lib.intOf]; omega
          · have hZ : Hid (Z = some (p, k)) := show _ = _ from by
              rw [← hp.out, hstep.out, ← HB.out]
              rfl
            clear hp hstep HB hfit
            go_wp2
            refine bodyPost_ret (v := .tuple #[.int .i64 p, .int .i64 k]) (by simp [results, Tryz.results86, go_sem]) rfl ⟨by rw [hZ.out]; rfl, hbz.out⟩
      · have hz : Hid (Z = none) := show _ = _ from by rw [← hp.out, tkFrom_short _ _ _ _ (by simp; omega)]
        clear hp HZ
        go_wp2
        refine bodyPost_ret (v := .tuple #[.int .i64 0, .int .i64 0]) (by simp [results, Tryz.results86, go_sem]) rfl ⟨by rw [hz.out]; rfl, hb⟩
    · obtain rfl : k = 5 := by omega
      have hz : Hid (Z = none) := show _ = _ from by rw [← hp.out]; rfl
      clear hp HZ
      go_wp2
      refine bodyPost_ret (v := .tuple #[.int .i64 0, .int .i64 0]) (by simp [results, Tryz.results86, go_sem]) rfl ⟨by rw [hz.out]; rfl, hb⟩
set_option maxRecDepth 20000 in
set_option maxHeartbeats 2000000 in
theorem specTakeD5 (s : ByteArray) (a : Nat) (w : World) (ha : a < s.size) (hs : s.size ≤ 100000) :
    Calls Tryz.prog 86 #[.int .i64 5, .string s, .int .i64 a] w fun e w' => e = .returned (tkV (Pd.tkFrom 5 (s.data.toList.drop a) 4 1)) ∧ Below w.heap.size w w' := by
  have h8 : s[a].toNat < 256 := UInt8.toNat_lt _
  obtain ⟨Z, HZ⟩ : ∃ Z, Hid (Pd.tkFrom 5 (s.data.toList.drop a) 4 1 = Z) := ⟨_, rfl⟩
  rw [HZ.out]
  go_enter Tryz.func86, Tryz.ntmps86
  go_wp2
  go_loopw [9, 10] (fun n _ wr => ∃ k : Nat, 1 ≤ k ∧ k ≤ 5 ∧ n = .int .i64 k ∧ Hid (Pd.tkFrom 5 (s.data.toList.drop a) (5 - k) k = Z) ∧ Below w.heap.size w wr) (fun n _ _ => 5 - (Lib.intOf n).toNat)
  case atStart => exact ⟨1, Nat.le_refl _, by omega, rfl, HZ.out, Below.refl _ _⟩
  case round =>
    obtain ⟨k, hk1, hk5, rfl, hp, hb⟩ := hrel
    by_cases h4 : k ≤ 4
    · by_cases hend : a + k ≤ s.size
      · have cG := fun w => specGuess16 (s.extract a (a + k)) (by rw [ByteArray.size_extract]; omega) (by rw [ByteArray.size_extract]; omega) w
        have hx := ext_takeD s a k
        rw [hx, Pd.gs5] at cG
        have hstep : Hid (Pd.tkFrom 5 (s.data.toList.drop a) (5 - k) k = if Pd.ft 5 ((s.data.toList.drop a).take k) = true then some (Pd.gs 5 ((s.data.toList.drop a).take k), k) else Pd.tkFrom 5 (s.data.toList.drop a) (5 - (k + 1)) (k + 1)) := show _ = _ from by
          rw [show 5 - k = (5 - (k + 1)) + 1 from by omega]
          conv => lhs; unfold Pd.tkFrom
          simp only [show k ≤ (s.data.toList.drop a).length from by simp; omega, true_and]
        generalize hL : (s.data.toList.drop a).take k = L at *
        by_cases hneg : Pd.gs 5 L < 0
        · have hfit : Pd.ft 5 L = false := by unfold Pd.ft; rw [decide_eq_false (by omega), Bool.false_and]
          have hnext : Hid (Pd.tkFrom 5 (s.data.toList.drop a) (5 - (k + 1)) (k + 1) = Z) := show _ = _ from by
            rw [← hp.out, hstep.out, hfit]
            rfl
          clear hp hstep HZ
          obtain ⟨b, hbq⟩ : ∃ b, decide ((0 : Int) ≤ Pd.gs 5 L) = b := ⟨_, rfl⟩
          have Hb : Hid (b = false) := show _ = _ from by rw [← hbq]; simp; omega
          generalize Pd.gs 5 L = p at *
          clear hfit hneg hL hx
          go_wp2_with fail
          refine (cG _).mono ?_
          rintro e w1 ⟨rfl, hb1⟩
          have hbw := mkHid (hb.trans (hb1.mono hb.size))
          go_wp2
          refine wp_region_quiet_below (by kernel_rfl) (by kernel_rfl) ?_
          quiet_step (fail)
          quiet_step (fail)
          clear hbq
          quiet_step (fail)
          iterate 11 (refine BigFrame.wpQuiet_skip (by obtain rfl : b = false := Hb.out; rfl) ?_; go_simp)
          obtain rfl : b = false := Hb.out
          repeat (quiet_step (fail))
          refine wpQuiet_nil ?_
          rintro ⟨dq, osq⟩
          have hbq := hbw.out.trans ((below_regrown w1 dq osq).mono hbw.out.size)
          generalize Go.Sort.grow (redrawn w1 dq) osq = wq at *
          go_wp2
          go_roundw
          case rel => exact ⟨k + 1, by omega, by omega, by go_num, hnext, hbq⟩
          case measure => simp [Lib.intOf]; omega
        · obtain ⟨n, hn⟩ : ∃ n : Nat, Pd.gs 5 L = n := ⟨(Pd.gs 5 L).toNat, by omega⟩
          have hfit : Hid (Pd.ft 5 L = decide (Pl.form 5 (n : Int) = L)) := show _ = _ from by
            unfold Pd.ft
            rw [hn, decide_eq_true (show (0 : Int) ≤ (n : Int) by omega), Bool.true_and]
          have cF : ∀ w : World, Calls Tryz.prog 32 #[.int .i64 5, .int .i64 (Pd.gs 5 L)] w fun e w' => ∃ v, e = .returned v ∧ Own w.heap.size v (Pl.form 5 (n : Int)) w' ∧ Below w.heap.size w w' := by
            rw [hn]
            exact fun w => specForm 5 (n : Int) (by omega) w
          have hbq : decide ((0 : Int) ≤ Pd.gs 5 L) = true := by simp; omega
          generalize Pd.gs 5 L = p at *
          generalize Pl.form 5 (n : Int) = fm at *
          have Hx := mkHid hx
          have Hk : Hid (a + k ≤ s.size) := hend
          clear hneg hn hL hx HZ
          go_wp2_with fail
          refine (cG _).mono ?_
          rintro e w1 ⟨rfl, hb1⟩
          have hbw := mkHid (hb.trans (hb1.mono hb.size))
          clear hb hb1 cG
          have hwr : IntKind.i64.wrap ((a : Int) + (k : Int)) = ((a + k : Nat) : Int) := by rw [w64 _ (by omega) (by omega)]; omega
          have i1 : (a : Int) ≤ ((a + k : Nat) : Int) := by omega
          have i2 : ((a + k : Nat) : Int) ≤ (s.size : Int) := by omega
          go_wp2
          refine wp_region_any (by kernel_rfl) ?_
          refine wpAny_take (i := 0) (v := .int .i64 p) rfl (by kernel_rfl) (by kernel_rfl) (by kernel_rfl) (fun _ _ _ h => h) (Or.inl ⟨by rfl, ?_⟩) ?_
          · intro w
            go_simp
          go_simp
          refine wpAny_take (i := 1) (v := .bool true) rfl (by kernel_rfl) (by kernel_rfl) (by kernel_rfl) (fun _ _ _ h => h) (Or.inl ⟨by rfl, ?_⟩) ?_
          · intro w
            go_simp
          go_simp
          refine wpAny_take (i := 2) (v := .bool true) rfl (by kernel_rfl) (by kernel_rfl) (by kernel_rfl) (fun _ _ _ h => h) (Or.inl ⟨by rfl, ?_⟩) ?_
          · intro w
            go_simp
          go_simp
          refine wpAny_take (i := 3) (v := .int .i64 5) rfl (by kernel_rfl) (by kernel_rfl) (by kernel_rfl) (fun _ _ _ h => h) (Or.inl ⟨by rfl, ?_⟩) ?_
          · intro w
            go_simp
          go_simp
          refine wpAny_take (i := 4) (v := .int .i64 p) rfl (by kernel_rfl) (by kernel_rfl) (by kernel_rfl) (fun _ _ _ h => h) (Or.inl ⟨by rfl, ?_⟩) ?_
          · intro w
            go_simp
          go_simp
          refine wpAny_take (i := 7) (v := .string s) rfl (by kernel_rfl) (by kernel_rfl) (by kernel_rfl) (fun _ _ _ h => h) (Or.inl ⟨by rfl, ?_⟩) ?_
          · intro w
            go_simp
          go_simp
          refine wpAny_take (i := 8) (v := .int .i64 a) rfl (by kernel_rfl) (by kernel_rfl) (by kernel_rfl) (fun _ _ _ h => h) (Or.inl ⟨by rfl, ?_⟩) ?_
          · intro w
            go_simp
          go_simp
          refine wpAny_take (i := 9) (v := .int .i64 a) rfl (by kernel_rfl) (by kernel_rfl) (by kernel_rfl) (fun _ _ _ h => h) (Or.inl ⟨by rfl, ?_⟩) ?_
          · intro w
            go_simp
          go_simp
          refine wpAny_take (i := 10) (v := .int .i64 k) rfl (by kernel_rfl) (by kernel_rfl) (by kernel_rfl) (fun _ _ _ h => h) (Or.inl ⟨by rfl, ?_⟩) ?_
          · intro w
            go_simp
          go_simp
          refine wpAny_take (i := 11) (v := .int .i64 ((a + k : Nat) : Int)) rfl (by kernel_rfl) (by kernel_rfl) (by kernel_rfl) (fun _ _ _ h => h) (Or.inl ⟨by rfl, ?_⟩) ?_
          · intro w
            go_simp
          go_simp
          refine wpAny_take (i := 12) (v := .string (s.extract a (a + k))) rfl (by kernel_rfl) (by kernel_rfl) (by kernel_rfl) (fun _ _ _ h => h) (Or.inl ⟨by rfl, ?_⟩) ?_
          · intro w
            go_simp
            rw [if_pos (by omega), if_pos (by omega), show ((a : Int) + (k : Int)).toNat = a + k from by omega]
          go_simp
          refine wpAny_ready (rs := [5]) (by kernel_rfl) (by simp) ?_
          refine AllReady.cons rfl (fun K hK => ?_) AllReady.nil
          go_simp
          go_wp2_with fail
          refine (cF _).mono ?_
          rintro e w2 ⟨v, rfl, hown, hb2⟩
          have hcv := hown.back (P := Tryz.prog) 35 9 Tryz.underlying35 Tryz.underlying5 Tryz.underlying9
          show K _ w2
          refine hK _ _ ?_
          clear hK K
          go_simp
          obtain ⟨B, hB⟩ : ∃ B, (fm == (s.extract a (a + k)).toList) = B := ⟨_, rfl⟩
          have HB : Hid (B = Pd.ft 5 L) := show _ = _ from by
            rw [← hB, hfit.out, ByteArray.toList_eq, Hx.out]
            show (fm == L) = decide (fm = L)
            by_cases h : fm = L
            · simp [h]
            · rw [decide_eq_false h, beq_eq_false_iff_ne]
              exact h
          refine wpAny_ready (rs := [6]) (by kernel_rfl) (by simp) ?_
          refine AllReady.cons rfl (fun K hK => ?_) AllReady.nil
          go_simp
          refine hK _ _ ?_
          clear hK K
          go_simp
          refine wpAny_take (i := 13) (v := .bool B) rfl (by kernel_rfl) (by kernel_rfl) (by kernel_rfl) (fun _ _ _ h => h) (Or.inl ⟨by rfl, ?_⟩) ?_
          · intro w
            go_simp
          go_simp
          refine wpAny_take (i := 14) (v := .bool B) rfl (by kernel_rfl) (by kernel_rfl) (by kernel_rfl) (fun _ _ _ h => h) (Or.inl ⟨by rfl, ?_⟩) ?_
          · intro w
            go_simp
          go_simp
          refine wpAny_done (by kernel_rfl) ?_ _
          have hbz := mkHid (hbw.out.drew.trans (hb2.mono hbw.out.drew.size))
          clear hb2 hown hcv cF
          cases B
          · have hnext : Hid (Pd.tkFrom 5 (s.data.toList.drop a) (5 - (k + 1)) (k + 1) = Z) := show _ = _ from by
              rw [← hp.out, hstep.out, ← HB.out]
              rfl
            clear hp hstep HB hfit
            go_wp2
            go_roundw
            case rel => exact ⟨k + 1, by omega, by omega, by go_num, hnext, hbz.out⟩
            case measure => simp [Lib.intOf]; omega
          · have hZ : Hid (Z = some (p, k)) := show _ = _ from by
              rw [← hp.out, hstep.out, ← HB.out]
              rfl
            clear hp hstep HB hfit
            go_wp2
            refine bodyPost_ret (v := .tuple #[.int .i64 p, .int .i64 k]) (by simp [results, Tryz.results86, go_sem]) rfl ⟨by rw [hZ.out]; rfl, hbz.out⟩
      · have hz : Hid (Z = none) := show _ = _ from by rw [← hp.out, tkFrom_short _ _ _ _ (by simp; omega)]
        clear hp HZ
        go_wp2
        refine bodyPost_ret (v := .tuple #[.int .i64 0, .int .i64 0]) (by simp [results, Tryz.results86, go_sem]) rfl ⟨by rw [hz.out]; rfl, hb⟩
    · obtain rfl : k = 5 := by omega
      have hz : Hid (Z = none) := show _ = _ from by rw [← hp.out]; rfl
      clear hp HZ
      go_wp2
      refine bodyPost_ret (v := .tuple #[.int .i64 0, .int .i64 0]) (by simp [results, Tryz.results86, go_sem]) rfl ⟨by rw [hz.out]; rfl, hb⟩
end Go.Proofs.YtajkahpkbeobaaaGreatDoor
namespace Go.Proofs.YtajkahpkbeobaaaGreatDoor
open Go.Lib
set_option maxRecDepth 20000 in
theorem formN_form (p : Int) : Pu.formN p = Pl.form 4 p := by
  unfold Pu.formN Pl.form
  rw [show Pu.isPt p = Pl.isPt p from rfl]
  rfl
set_option maxRecDepth 20000 in
theorem ft4 (l : List UInt8) : Pd.ft 4 l = Pu.fits l := by
  unfold Pd.ft Pu.fits
  rw [← Pd.gs4, formN_form]
set_option maxRecDepth 20000 in
theorem tk4 (l : List UInt8) : Pd.tkFrom 4 l 4 1 = Pd.take 4 l := by
  have e4 : Pd.take 4 l = if Pu.takeN l = 0 then none else some (Pu.guessN (l.take (Pu.takeN l)), Pu.takeN l) := by
    unfold Pd.take
    rw [if_neg (by decide), if_neg (by decide), if_neg (by decide), if_pos rfl]
  rw [e4]
  unfold Pd.tkFrom Pd.tkFrom Pd.tkFrom Pd.tkFrom Pd.tkFrom Pu.takeN
  simp only [ft4, ← Pd.gs4]
  by_cases h1 : 1 ≤ l.length ∧ Pu.fits (l.take 1) = true
  · simp only [if_pos h1]; rfl
  · simp only [if_neg h1]
    by_cases h2 : 2 ≤ l.length ∧ Pu.fits (l.take 2) = true
    · simp only [if_pos h2]; rfl
    · simp only [if_neg h2]
      by_cases h3 : 3 ≤ l.length ∧ Pu.fits (l.take 3) = true
      · simp only [if_pos h3]; rfl
      · simp only [if_neg h3]
        by_cases h4 : 4 ≤ l.length ∧ Pu.fits (l.take 4) = true
        · simp only [if_pos h4]; rfl
        · simp only [if_neg h4]; rfl
set_option maxRecDepth 20000 in
theorem form5 (p : Int) (h : Pl.isPt p = true) : Pl.form 5 p = if p < 65536 then [Pl.by8 (p / 256), Pl.by8 (p % 256)] else
    [Pl.by8 ((55296 + (p - 65536) / 1024) / 256), Pl.by8 ((55296 + (p - 65536) / 1024) % 256), Pl.by8 ((56320 + (p - 65536) % 1024) / 256), Pl.by8 ((56320 + (p - 65536) % 1024) % 256)] := by
  unfold Pl.form
  rw [if_neg (by rw [h]; simp), if_neg (by decide), if_neg (by decide), if_neg (by decide), if_neg (by decide)]
set_option maxRecDepth 20000 in
theorem form5_no (p : Int) (h : Pl.isPt p = false) : Pl.form 5 p = [] := by
  unfold Pl.form
  rw [if_pos h]
set_option maxRecDepth 20000 in
theorem ft5_two (a b : UInt8) : Pd.ft 5 [a, b] = Pl.isPt (Pd.two a b) := by
  have ha := UInt8.toNat_lt a
  have hb := UInt8.toNat_lt b
  unfold Pd.ft
  rw [← Pd.gs5]
  show (decide (0 ≤ Pd.two a b) && decide (Pl.form 5 (Pd.two a b) = [a, b])) = _
  have h0 : 0 ≤ Pd.two a b := by unfold Pd.two; omega
  have h1 : Pd.two a b < 65536 := by unfold Pd.two; omega
  rw [decide_eq_true h0, Bool.true_and]
  cases hp : Pl.isPt (Pd.two a b) with
  | false => rw [form5_no _ hp]; simp
  | true =>
    rw [form5 _ hp, if_pos h1]
    have e1 : Pl.by8 (Pd.two a b / 256) = a := (Pl.by8_eq _ _ (by omega) (by omega)).2 (by unfold Pd.two; omega)
    have e2 : Pl.by8 (Pd.two a b % 256) = b := (Pl.by8_eq _ _ (by omega) (by omega)).2 (by unfold Pd.two; omega)
    rw [e1, e2]
    simp
set_option maxRecDepth 20000 in
theorem ft5_odd (l : List UInt8) (h : l.length = 1 ∨ l.length = 3) : Pd.ft 5 l = false := by
  have e : Pd.gs 5 l = -1 := by
    rw [← Pd.gs5]
    match l, h with
    | [_], _ => rfl
    | [_, _, _], _ => rfl
  unfold Pd.ft
  rw [e]
  rfl
set_option maxRecDepth 20000 in
theorem ft5_four (a b c d : UInt8) (hp : Pl.isPt (Pd.two a b) = false) : Pd.ft 5 [a, b, c, d] = decide (Pd.two a b < 56320 ∧ 56320 ≤ Pd.two c d ∧ Pd.two c d ≤ 57343) := by
  have ha := UInt8.toNat_lt a
  have hb := UInt8.toNat_lt b
  have hc := UInt8.toNat_lt c
  have hd := UInt8.toNat_lt d
  have hx : 55296 ≤ Pd.two a b ∧ Pd.two a b ≤ 57343 := by
    unfold Pl.isPt at hp
    simp only [Bool.and_eq_false_imp, decide_eq_true_eq, Bool.not_eq_false', Bool.and_eq_true] at hp
    exact hp (by unfold Pd.two; omega) (by unfold Pd.two; omega)
  have hy : 0 ≤ Pd.two c d ∧ Pd.two c d < 65536 := by unfold Pd.two; omega
  unfold Pd.ft
  rw [← Pd.gs5]
  show (decide (0 ≤ (Pd.two a b - 55296) * 1024 + Pd.two c d - 56320 + 65536) && decide (Pl.form 5 ((Pd.two a b - 55296) * 1024 + Pd.two c d - 56320 + 65536) = [a, b, c, d])) = _
  have hA : Pd.two a b = (a.toNat : Int) * 256 + b.toNat := rfl
  have hC : Pd.two c d = (c.toNat : Int) * 256 + d.toNat := rfl
  generalize Pd.two a b = x at *
  generalize Pd.two c d = y at *
  obtain ⟨p, hpE⟩ : ∃ p, p = (x - 55296) * 1024 + y - 56320 + 65536 := ⟨_, rfl⟩
  rw [← hpE]
  have h0 : 0 ≤ p := by omega
  rw [decide_eq_true h0, Bool.true_and]
  congr 1
  cases hq : Pl.isPt p with
  | false =>
    rw [form5_no _ hq]
    have hr : ¬ (0 ≤ p ∧ p ≤ 1114111 ∧ ¬ (55296 ≤ p ∧ p ≤ 57343)) := by
      unfold Pl.isPt at hq
      simp only [Bool.and_eq_false_imp, decide_eq_true_eq, Bool.not_eq_false', Bool.and_eq_true] at hq
      intro h
      exact h.2.2 (hq h.1 h.2.1)
    simp only [eq_iff_iff]
    constructor
    · intro h; cases h
    · intro h; omega
  | true =>
    have hr : 0 ≤ p ∧ p ≤ 1114111 := by
      unfold Pl.isPt at hq
      simp only [Bool.and_eq_true, decide_eq_true_eq] at hq
      exact ⟨hq.1, hq.2.1⟩
    rw [form5 _ hq]
    by_cases hs : p < 65536
    · rw [if_pos hs]
      simp only [eq_iff_iff]
      constructor
      · intro h; simp at h
      · intro h; omega
    · rw [if_neg hs]
      simp only [eq_iff_iff, List.cons.injEq, and_true]
      rw [Pl.by8_eq _ _ (by omega) (by omega), Pl.by8_eq _ _ (by omega) (by omega), Pl.by8_eq _ _ (by omega) (by omega), Pl.by8_eq _ _ (by omega) (by omega)]
      omega
set_option maxRecDepth 20000 in
theorem tkStep (set : Int) (l : List UInt8) (f k : Nat) (h : ¬ (k ≤ l.length ∧ Pd.ft set (l.take k) = true)) : Pd.tkFrom set l (f + 1) k = Pd.tkFrom set l f (k + 1) := by
  conv => lhs; unfold Pd.tkFrom
  exact if_neg h
set_option maxRecDepth 20000 in
theorem tkHit (set : Int) (l : List UInt8) (f k : Nat) (h : k ≤ l.length ∧ Pd.ft set (l.take k) = true) : Pd.tkFrom set l (f + 1) k = some (Pd.gs set (l.take k), k) := by
  conv => lhs; unfold Pd.tkFrom
  exact if_pos h
set_option maxRecDepth 20000 in
theorem tk5 (l : List UInt8) : Pd.tkFrom 5 l 4 1 = Pd.take16 l := by
  match l with
  | [] => rw [tkFrom_short 5 [] 4 1 (by simp)]; rfl
  | [a] =>
    rw [tkStep 5 _ 3 1 (fun h => by rw [ft5_odd _ (.inl rfl)] at h; cases h.2), tkFrom_short 5 [a] 3 2 (by simp)]
    rfl
  | a :: b :: r =>
    rw [tkStep 5 _ 3 1 (fun h => by rw [ft5_odd _ (.inl rfl)] at h; cases h.2)]
    have e2 : (a :: b :: r).take 2 = [a, b] := rfl
    cases hp : Pl.isPt (Pd.two a b) with
    | true =>
      rw [tkHit 5 _ 2 2 ⟨by simp, by rw [e2, ft5_two, hp]⟩, e2, ← Pd.gs5]
      exact (take16_pt a b r hp).symm
    | false =>
      rw [tkStep 5 _ 2 2 (fun h => by rw [e2, ft5_two, hp] at h; cases h.2)]
      match r with
      | [] =>
        rw [tkFrom_short 5 _ 2 3 (by simp)]
        exact (take16_half a b hp [] (by simp)).symm
      | [c] =>
        rw [tkStep 5 _ 1 3 (fun h => by rw [ft5_odd _ (.inr rfl)] at h; cases h.2), tkFrom_short 5 _ 1 4 (by simp)]
        exact (take16_half a b hp [c] (by simp)).symm
      | c :: d :: t =>
        have e4 : (a :: b :: c :: d :: t).take 4 = [a, b, c, d] := rfl
        rw [tkStep 5 _ 1 3 (fun h => by rw [ft5_odd _ (.inr rfl)] at h; cases h.2)]
        have eR : Pd.take16 (a :: b :: c :: d :: t) = if Pd.two a b < 56320 ∧ 56320 ≤ Pd.two c d ∧ Pd.two c d ≤ 57343 then some (65536 + (Pd.two a b - 55296) * 1024 + (Pd.two c d - 56320), 4) else none := by
          unfold Pd.take16
          exact if_neg (by rw [hp]; simp)
        rw [eR]
        by_cases hc : Pd.two a b < 56320 ∧ 56320 ≤ Pd.two c d ∧ Pd.two c d ≤ 57343
        · rw [if_pos hc, tkHit 5 _ 0 4 ⟨by simp, by rw [e4, ft5_four _ _ _ _ hp, decide_eq_true hc]⟩, e4, ← Pd.gs5]
          show some ((Pd.two a b - 55296) * 1024 + Pd.two c d - 56320 + 65536, 4) = _
          rw [show (Pd.two a b - 55296) * 1024 + Pd.two c d - 56320 + 65536 = 65536 + (Pd.two a b - 55296) * 1024 + (Pd.two c d - 56320) by omega]
        · rw [if_neg hc, tkStep 5 _ 0 4 (fun h => by rw [e4, ft5_four _ _ _ _ hp, decide_eq_false hc] at h; cases h.2)]
          rfl
end Go.Proofs.YtajkahpkbeobaaaGreatDoor
namespace Go.Proofs.YtajkahpkbeobaaaGreatDoor
open Go.RowKit Go.Lib
set_option maxRecDepth 20000 in
theorem getD_drop (s : ByteArray) (a : Nat) (h : a < s.size) : (s.data.toList.drop a).getD 0 0 = s[a] := by
  have hl : a < s.data.toList.length := by simpa using h
  rw [List.drop_eq_getElem_cons hl]
  rfl
set_option maxRecDepth 20000 in
set_option maxHeartbeats 1000000 in
theorem specTake1 (s : ByteArray) (a : Nat) (w : World) (ha : a < s.size) :
    Calls Tryz.prog 86 #[.int .i64 1, .string s, .int .i64 a] w fun e w' => e = .returned (tkV (Pd.take 1 (s.data.toList.drop a))) ∧ Below w.heap.size w w' := by
  have h8 : s[a].toNat < 256 := UInt8.toNat_lt _
  have e : Pd.take 1 (s.data.toList.drop a) = if s[a].toNat < 128 then some ((s[a].toNat : Int), 1) else none := by
    unfold Pd.take
    rw [if_pos rfl, getD_drop s a ha]
  rw [e]
  clear e
  generalize hsk : s[a] = c at *
  by_cases h : c.toNat < 128
  · rw [if_pos h]
    go_enter Tryz.func86, Tryz.ntmps86
    go_wp2
    go_ret2
    exact ⟨rfl, Below.refl _ _⟩
  · rw [if_neg h]
    go_enter Tryz.func86, Tryz.ntmps86
    go_wp2
    go_ret2
    exact ⟨rfl, Below.refl _ _⟩
set_option maxRecDepth 20000 in
set_option maxHeartbeats 1000000 in
theorem specTake2 (s : ByteArray) (a : Nat) (w : World) (ha : a < s.size) :
    Calls Tryz.prog 86 #[.int .i64 2, .string s, .int .i64 a] w fun e w' => e = .returned (tkV (Pd.take 2 (s.data.toList.drop a))) ∧ Below w.heap.size w w' := by
  have h8 : s[a].toNat < 256 := UInt8.toNat_lt _
  have e : Pd.take 2 (s.data.toList.drop a) = some ((s[a].toNat : Int), 1) := by
    unfold Pd.take
    rw [if_neg (by decide), if_pos rfl, getD_drop s a ha]
  rw [e]
  clear e
  generalize hsk : s[a] = c at *
  go_enter Tryz.func86, Tryz.ntmps86
  go_wp2
  go_ret2
  exact ⟨rfl, Below.refl _ _⟩
set_option maxRecDepth 20000 in
set_option maxHeartbeats 1000000 in
theorem specTake3 (s : ByteArray) (a : Nat) (w : World) (ha : a < s.size) :
    Calls Tryz.prog 86 #[.int .i64 3, .string s, .int .i64 a] w fun e w' => e = .returned (tkV (Pd.take 3 (s.data.toList.drop a))) ∧ Below w.heap.size w w' := by
  have h8 : s[a].toNat < 256 := UInt8.toNat_lt _
  have e : Pd.take 3 (s.data.toList.drop a) = some (Pd.nineV s[a].toNat, 1) := by
    unfold Pd.take
    rw [if_neg (by decide), if_neg (by decide), if_pos rfl, getD_drop s a ha]
  rw [e]
  clear e
  have cN := mkHid (specNine s[a].toNat h8 w)
  unfold Pd.nineV
  generalize hsk : s[a] = c at *
  go_enter Tryz.func86, Tryz.ntmps86
  go_wp2_with fail
  refine cN.out.mono ?_
  rintro e w1 ⟨rfl, rfl⟩
  go_wp2
  go_ret2
  exact ⟨rfl, Below.refl _ _⟩
set_option maxRecDepth 20000 in
theorem specTakeA (set : Int) (hset : 1 ≤ set ∧ set ≤ 5) (s : ByteArray) (a : Nat) (w : World) (ha : a < s.size) (hs : s.size ≤ 100000) :
    Calls Tryz.prog 86 #[.int .i64 set, .string s, .int .i64 a] w fun e w' => e = .returned (tkV (Pd.take set (s.data.toList.drop a))) ∧ Below w.heap.size w w' := by
  have h5 : set = 1 ∨ set = 2 ∨ set = 3 ∨ set = 4 ∨ set = 5 := by omega
  rcases h5 with rfl | rfl | rfl | rfl | rfl
  · exact specTake1 s a w ha
  · exact specTake2 s a w ha
  · exact specTake3 s a w ha
  · rw [← tk4]; exact specTakeD4 s a w ha hs
  · have e : Pd.take 5 (s.data.toList.drop a) = Pd.take16 (s.data.toList.drop a) := by
      unfold Pd.take
      rw [if_neg (by decide), if_neg (by decide), if_neg (by decide), if_neg (by decide)]
    rw [e, ← tk5]; exact specTakeD5 s a w ha hs
set_option maxRecDepth 20000 in
theorem OwnN.madeD (B : Nat) (w : World) (hB : B ≤ w.heap.size) : OwnN B (.slice (some ⟨w.heap.size, 0, none⟩) 0 0) [] (w.alloc (.cells #[] 2)) :=
  ⟨rfl, .inr ⟨w.heap.size, 0, #[], rfl, hB, heap_alloc_at _ _, Nat.le_refl _, Nat.zero_le _, rfl, rfl⟩⟩
set_option maxRecDepth 20000 in
theorem retDS {w wr : World} {tmps : Array Value} {x : Option (List Int)} (cs : Array Value) (hp : tmps.getD 4 undef = .pointer (some ⟨w.heap.size, 0, none⟩)) {old : Array Value} (hres : wr.heap[w.heap.size]? = some (.cells old 52 (0, 0))) (hb : Below w.heap.size w wr) (h3 : cs.size = 3) (ho : DecOut w.heap.size x (.returned (.agg cs)) (wr.setRow w.heap.size cs)) :
    bodyPost Tryz.prog Tryz.f60 (fun e w' => DecOut w.heap.size x e w' ∧ Below w.heap.size w w') Exit.ret { tmps := tmps, defers := [] } (wr.setRow w.heap.size cs) := by
  refine bodyPost_ret (v := .agg cs) (results_cell_row Tryz.results60 _ _ w.heap.size 52 _ (0, 0) _ hp (setRow_heap _ _ _ _ _ _ hres) Tryz.underlying52 rfl ?_) rfl ⟨ho, hb.grown (grown_setRow _ _ _) hb.size (fun j hj => by cases hj; exact Nat.le_refl _)⟩
  rw [h3]
  kernel_rfl
set_option maxRecDepth 20000 in
set_option maxHeartbeats 4000000 in
theorem specDecode (set : Int) (s : ByteArray) (w : World) (hs : s.size ≤ 100000) :
    Calls Tryz.prog 60 #[.int .i64 set, .string s] w fun e w' => DecOut w.heap.size (decA set s.data.toList) e w' ∧ Below w.heap.size w w' := by
  have h1 : ¬ (100000 : Int) < (s.size : Int) := by omega
  obtain ⟨W, hW⟩ : ∃ W, W = w.alloc (.cells #[.bool false, .int .i64 0, .slice none 0 0] 52) := ⟨_, rfl⟩
  have hN0 : W.heap[w.heap.size]? = some (.cells #[.bool false, .int .i64 0, .slice none 0 0] 52 (0, 0)) := by rw [hW]; exact heap_alloc_at _ _
  have hB0 : Below w.heap.size w W := by rw [hW]; exact (Below.refl _ _).alloc (Nat.le_refl _) _
  have hz0 : W.heap.size = w.heap.size + 1 := by rw [hW, World.size_alloc]
  have cN := mkHid (fun V => specNameE set V)
  have HW := mkHid hW
  clear hW
  unfold decA
  by_cases h : set < 1 ∨ 5 < set
  · rw [if_pos h]
    go_enter Tryz.func60, Tryz.ntmps60
    go_wp2_with fail
    refine (cN.out _).mono ?_
    rintro e w2 ⟨t, rfl, ht, rfl⟩
    rw [decide_eq_true h] at ht
    have hte : t.toList = [] := List.isEmpty_iff.1 ht
    have ht2 : (t.toList == []) = true := by rw [hte]; rfl
    rw [← HW.out]
    clear cN
    go_wp2_with (first | (refine wpL_store_row rfl 52 _ _ rfl w.heap.size #[.bool false, .int .i64 0, .slice none 0 0] rfl rfl 52 _ hN0 (by kernel_rfl) rfl (by simp [Value.oneCell']) ?_) | go_in)
    exact retDS _ rfl hN0 hB0 rfl ⟨_, rfl⟩
  · rw [if_neg h]
    have hset : 1 ≤ set ∧ set ≤ 5 := by omega
    have cT := mkHid (fun a V (ha : a < s.size) => specTakeA set hset s a V ha hs)
    have HN := mkHid hN0
    have HB := mkHid hB0
    go_enter Tryz.func60, Tryz.ntmps60
    go_wp2_with fail
    refine (cN.out _).mono ?_
    rintro e w2 ⟨t, rfl, ht, rfl⟩
    rw [decide_eq_false h] at ht
    have ht2 : (t.toList == []) = false := by cases hq : t.toList with | nil => rw [hq] at ht; cases ht | cons a r => rfl
    rw [← HW.out]
    clear cN hN0 hB0 h ht
    have HO0 := mkHid (OwnN.madeD W.heap.size W (Nat.le_refl _))
    have HB1 := mkHid ((Below.refl W.heap.size W).alloc (Nat.le_refl _) (.cells #[] 2))
    go_wp2
    go_loopw [5, 6] (fun v iv wr => ∃ (k : Nat) (p : List Int), k ≤ s.size ∧ iv = .int .i64 k ∧ p.length ≤ k ∧ Hid (Pd.dec set p (s.data.toList.drop k) = Pd.dec set [] s.data.toList) ∧ Hid (OwnN W.heap.size v p wr) ∧ Hid (Below W.heap.size W wr)) (fun _ iv _ => s.size - (Lib.intOf iv).toNat)
    case atStart => exact ⟨0, [], Nat.zero_le _, rfl, Nat.le_refl _, mkHid rfl, mkHid (by rw [← hz0]; exact HO0.out), HB1⟩
    case round =>
      obtain ⟨k, p, hk, rfl, hpl, Hd, HO, Hb⟩ := hrel
      clear HO0 HB1
      have hll : s.data.toList.length = s.size := by simp
      have zr : W.heap.size ≤ wr.heap.size := Hb.out.size
      obtain ⟨ob, cb, rfl⟩ := HO.out.shape
      by_cases hlt : k < s.size
      · have hkd : k < s.data.toList.length := by omega
        have cK := mkHid (cT.out k wr hlt)
        cases hx : Pd.take set (s.data.toList.drop k) with
        | none =>
          have Hbad := mkHid (Pd.dec_bad hkd hx Hd.out)
          rw [hx] at cK
          unfold tkV at cK
          clear hx
          go_wp2_with fail
          refine cK.out.mono ?_
          rintro e wq ⟨rfl, hbq⟩
          have hrq := (hbq.block w.heap.size (by omega)).trans ((Hb.out.block w.heap.size (by omega)).trans HN.out)
          have hbw := mkHid (HB.out.trans ((Hb.out.trans (hbq.mono zr)).mono HB.out.size))
          clear cK
          go_wp2_with (first | (refine wpL_store_row rfl 52 _ _ rfl w.heap.size #[.bool false, .int .i64 (k : Int), .slice none 0 0] rfl rfl 52 _ hrq (by kernel_rfl) rfl (by simp [Value.oneCell']) ?_) | go_in)
          rw [Hbad.out]
          exact retDS _ rfl hrq hbw.out rfl ⟨_, rfl⟩
        | some qn =>
          obtain ⟨q, n⟩ := qn
          obtain ⟨hn1, hn2⟩ := Pd.take_room (by rw [List.drop_eq_getElem_cons hkd]; exact List.cons_ne_nil _ _) hx
          have Hst := mkHid (Pd.dec_step hkd hx Hd.out)
          have hn3 : k + n ≤ s.size := by rw [List.length_drop] at hn2; omega
          rw [hx] at cK
          unfold tkV at cK
          clear hx
          have hnz : ((n : Int) == 0) = false := by rw [beq_eq_false_iff_ne]; omega
          go_wp2_with fail
          refine cK.out.mono ?_
          rintro e wq ⟨rfl, hbq⟩
          have HOq := mkHid (HO.out.below hbq)
          have Hbq := mkHid (Hb.out.trans (hbq.mono zr))
          have zq : W.heap.size ≤ wq.heap.size := Hbq.out.size
          clear cK hbq HO Hb zr
          go_wp2_with (at_builtin; refine wp_appN rfl _ _ rfl W.heap.size (.slice ob p.length cb) p rfl HOq.out q _ rfl (by omega) zq ?_; intro v5 w5 hown5 hg5; refine Hid.out ?_)
          refine mkHid ?_
          have Hb5 := mkHid (Hbq.out.trans (show Below W.heap.size wq w5 from
            ⟨hg5.os, hg5.tape, hg5.output, Nat.le_trans (by simp) hg5.size, fun j hj => (hg5.block j (by simp; omega) (fun e => by have := (World.ownsRow.lt HOq.out j e.symm).1; omega)).trans (heap_alloc_old _ _ _ (by omega))⟩))
          clear hg5
          go_wp2
          go_roundw
          case rel => exact ⟨k + n, p ++ [q], hn3, by go_num, by simp; omega, Hst, mkHid hown5, Hb5⟩
          case measure => simp [Lib.intOf]; omega
      · have Hdn := mkHid (Pd.dec_done (by omega) Hd.out)
        have hres := (Hb.out.block w.heap.size (by omega)).trans HN.out
        have hbw := mkHid (HB.out.trans (Hb.out.mono HB.out.size))
        go_wp2_with (first | (refine wpL_store_row rfl 52 _ _ rfl w.heap.size #[.bool true, .int .i64 0, .slice ob p.length cb] rfl rfl 52 _ hres (by kernel_rfl) rfl (by simp [Value.oneCell']) ?_) | go_in)
        rw [Hdn.out]
        refine retDS _ rfl hres hbw.out rfl ⟨_, rfl, ?_⟩
        have hk2 := OwnN.keep HO.out (grown_setRow wr w.heap.size #[.bool true, .int .i64 0, .slice ob p.length cb]) (.inr (fun e => by have := (World.ownsRow.lt HO.out w.heap.size e).1; omega))
        exact own_baseN hk2 (by omega)
end Go.Proofs.YtajkahpkbeobaaaGreatDoor
