/- Good utf-8 and ContentFault, the specification's side. -/
import Derived.Test.YtpjpnjbegjiegaaDoorContUtf
import Derived.Test.YtpjpnjbegjiegaaDoorContImpl
namespace Go.Proofs.YtpjpnjbegjiegaaDoor
open Go.RowKit Go.Lib
theorem ext_take (s : ByteArray) (a n : Nat) : (s.extract a (a + n)).data.toList = (s.data.toList.drop a).take n := by
  simp [ByteArray.data_extract, Array.toList_extract]
theorem guess_lt (l : List UInt8) : Pl.guessN l ≤ 5000000 := by
  unfold Pl.guessN
  split
  · rename_i a; have := UInt8.toNat_lt a; omega
  · rename_i a b; have := UInt8.toNat_lt a; have := UInt8.toNat_lt b; omega
  · rename_i a b c; have := UInt8.toNat_lt a; have := UInt8.toNat_lt b; have := UInt8.toNat_lt c; omega
  · rename_i a b c d; have := UInt8.toNat_lt a; have := UInt8.toNat_lt b; have := UInt8.toNat_lt c; have := UInt8.toNat_lt d; omega
  · omega
/-- The least n from k on at which the bytes fit, none: 0. -/
def Pl.takeFrom (l : List UInt8) : Nat → Nat → Nat
  | 0, _ => 0
  | f + 1, k => if k ≤ l.length ∧ Pl.fits (l.take k) = true then k else Pl.takeFrom l f (k + 1)
theorem takeFrom_eq (l : List UInt8) : Pl.takeFrom l 4 1 = Pl.takeN l := rfl
theorem takeFrom_short (l : List UInt8) : ∀ (f k : Nat), l.length < k → Pl.takeFrom l f k = 0
  | 0, _, _ => rfl
  | f + 1, k, h => by
    unfold Pl.takeFrom
    rw [if_neg (by omega)]
    exact takeFrom_short l f (k + 1) (by omega)
set_option maxHeartbeats 2000000 in
theorem specTake (s : ByteArray) (a : Nat) (w : World) (ha : a < s.size) (hs : s.size ≤ 100000) :
    Calls Tryd.prog 41 #[.int .i64 4, .string s, .int .i64 a] w fun e w' => ∃ p : Int, e = .returned (.tuple #[.int .i64 p, .int .i64 (Pl.takeN (s.data.toList.drop a))]) ∧ Below w.heap.size w w' := by
  have h8 : s[a].toNat < 256 := UInt8.toNat_lt _
  rw [← takeFrom_eq]
  obtain ⟨Z, HZ⟩ : ∃ Z, Hid (Pl.takeFrom (s.data.toList.drop a) 4 1 = Z) := ⟨_, rfl⟩
  rw [HZ.out]
  go_enter Tryd.func41, Tryd.ntmps41
  go_wp2
  go_loopw [9, 10] (fun n _ wr => ∃ k : Nat, 1 ≤ k ∧ k ≤ 5 ∧ n = .int .i64 k ∧ Hid (Pl.takeFrom (s.data.toList.drop a) (5 - k) k = Z) ∧ Below w.heap.size w wr) (fun n _ _ => 5 - (Lib.intOf n).toNat)
  case atStart => exact ⟨1, Nat.le_refl _, by omega, rfl, HZ.out, Below.refl _ _⟩
  case round =>
    obtain ⟨k, hk1, hk5, rfl, hp, hb⟩ := hrel
    by_cases h4 : k ≤ 4
    · by_cases hend : a + k ≤ s.size
      · have cG := fun w => specGuess (s.extract a (a + k)) (by rw [ByteArray.size_extract]; omega) (by rw [ByteArray.size_extract]; omega) w
        have hx := ext_take s a k
        have hg := guess_lt ((s.data.toList.drop a).take k)
        rw [hx] at cG
        have hstep : Hid (Pl.takeFrom (s.data.toList.drop a) (5 - k) k = if Pl.fits ((s.data.toList.drop a).take k) = true then k else Pl.takeFrom (s.data.toList.drop a) (5 - (k + 1)) (k + 1)) := show _ = _ from by
          rw [show 5 - k = (5 - (k + 1)) + 1 from by omega]
          conv => lhs; unfold Pl.takeFrom
          simp only [show k ≤ (s.data.toList.drop a).length from by simp; omega, true_and]
        generalize hL : (s.data.toList.drop a).take k = L at *
        by_cases hneg : Pl.guessN L < 0
        · have hfit : Pl.fits L = false := by unfold Pl.fits; rw [decide_eq_false (by omega), Bool.false_and]
          have hnext : Hid (Pl.takeFrom (s.data.toList.drop a) (5 - (k + 1)) (k + 1) = Z) := show _ = _ from by
            rw [← hp.out, hstep.out, hfit]
            rfl
          clear hp hstep HZ
          obtain ⟨b, hbq⟩ : ∃ b, decide ((0 : Int) ≤ Pl.guessN L) = b := ⟨_, rfl⟩
          have Hb : Hid (b = false) := show _ = _ from by rw [← hbq]; simp; omega
          generalize Pl.guessN L = p at *
          clear hfit hneg hg hL hx
          go_wp2_with fail
          refine (cG _).mono ?_
          rintro e w1 ⟨rfl, hb1⟩
          have hbw := mkHid (hb.trans (hb1.mono hb.size))
          go_wp2
          refine wp_region_quiet_below (by kernel_rfl) (by kernel_rfl) ?_
          quiet_step (fail)
          quiet_step (fail)
          clear hbq
          quiet_step (fail)
          iterate 11 (refine BigFrame.wpQuiet_skip (by obtain rfl : b = false := Hb.out; rfl) ?_; go_simp)
          obtain rfl : b = false := Hb.out
          repeat (quiet_step (fail))
          refine wpQuiet_nil ?_
          rintro ⟨dq, osq⟩
          have hbq := hbw.out.trans ((below_regrown w1 dq osq).mono hbw.out.size)
          generalize Go.Sort.grow (redrawn w1 dq) osq = wq at *
          go_wp2
          go_roundw
          case rel => exact ⟨k + 1, by omega, by omega, by go_num, hnext, hbq⟩
          case measure => simp [Lib.intOf]; omega
        · obtain ⟨n, hn⟩ : ∃ n : Nat, Pl.guessN L = n := ⟨(Pl.guessN L).toNat, by omega⟩
          have hfit : Hid (Pl.fits L = decide (Pl.formN n = L)) := show _ = _ from by
            unfold Pl.fits
            rw [hn, decide_eq_true (show (0 : Int) ≤ (n : Int) by omega), Bool.true_and]
          have cF : ∀ w : World, Calls Tryd.prog 52 #[.int .i64 4, .int .i64 (Pl.guessN L)] w fun e w' => ∃ v, e = .returned v ∧ Own w.heap.size v (Pl.formN n) w' ∧ Below w.heap.size w w' := by
            rw [hn]
            exact fun w => specForm n (by omega) w
          have hbq : decide ((0 : Int) ≤ Pl.guessN L) = true := by simp; omega
          generalize Pl.guessN L = p at *
          generalize Pl.formN n = fm at *
          have Hx := mkHid hx
          have Hk : Hid (a + k ≤ s.size) := hend
          clear hneg hg hn hL hx HZ
          go_wp2_with fail
          refine (cG _).mono ?_
          rintro e w1 ⟨rfl, hb1⟩
          have hbw := mkHid (hb.trans (hb1.mono hb.size))
          clear hb hb1 cG
          have hwr : IntKind.i64.wrap ((a : Int) + (k : Int)) = ((a + k : Nat) : Int) := by rw [w64 _ (by omega) (by omega)]; omega
          have i1 : (a : Int) ≤ ((a + k : Nat) : Int) := by omega
          have i2 : ((a + k : Nat) : Int) ≤ (s.size : Int) := by omega
          go_wp2
          refine wp_region_any (by kernel_rfl) ?_
          refine wpAny_take (i := 0) (v := .int .i64 p) rfl (by kernel_rfl) (by kernel_rfl) (by kernel_rfl) (fun _ _ _ h => h) (Or.inl ⟨by rfl, ?_⟩) ?_
          · intro w
            go_simp
          go_simp
          refine wpAny_take (i := 1) (v := .bool true) rfl (by kernel_rfl) (by kernel_rfl) (by kernel_rfl) (fun _ _ _ h => h) (Or.inl ⟨by rfl, ?_⟩) ?_
          · intro w
            go_simp
          go_simp
          refine wpAny_take (i := 2) (v := .bool true) rfl (by kernel_rfl) (by kernel_rfl) (by kernel_rfl) (fun _ _ _ h => h) (Or.inl ⟨by rfl, ?_⟩) ?_
          · intro w
            go_simp
          go_simp
          refine wpAny_take (i := 3) (v := .int .i64 4) rfl (by kernel_rfl) (by kernel_rfl) (by kernel_rfl) (fun _ _ _ h => h) (Or.inl ⟨by rfl, ?_⟩) ?_
          · intro w
            go_simp
          go_simp
          refine wpAny_take (i := 4) (v := .int .i64 p) rfl (by kernel_rfl) (by kernel_rfl) (by kernel_rfl) (fun _ _ _ h => h) (Or.inl ⟨by rfl, ?_⟩) ?_
          · intro w
            go_simp
          go_simp
          refine wpAny_take (i := 7) (v := .string s) rfl (by kernel_rfl) (by kernel_rfl) (by kernel_rfl) (fun _ _ _ h => h) (Or.inl ⟨by rfl, ?_⟩) ?_
          · intro w
            go_simp
          go_simp
          refine wpAny_take (i := 8) (v := .int .i64 a) rfl (by kernel_rfl) (by kernel_rfl) (by kernel_rfl) (fun _ _ _ h => h) (Or.inl ⟨by rfl, ?_⟩) ?_
          · intro w
            go_simp
          go_simp
          refine wpAny_take (i := 9) (v := .int .i64 a) rfl (by kernel_rfl) (by kernel_rfl) (by kernel_rfl) (fun _ _ _ h => h) (Or.inl ⟨by rfl, ?_⟩) ?_
          · intro w
            go_simp
          go_simp
          refine wpAny_take (i := 10) (v := .int .i64 k) rfl (by kernel_rfl) (by kernel_rfl) (by kernel_rfl) (fun _ _ _ h => h) (Or.inl ⟨by rfl, ?_⟩) ?_
          · intro w
            go_simp
          go_simp
          refine wpAny_take (i := 11) (v := .int .i64 ((a + k : Nat) : Int)) rfl (by kernel_rfl) (by kernel_rfl) (by kernel_rfl) (fun _ _ _ h => h) (Or.inl ⟨by rfl, ?_⟩) ?_
          · intro w
            go_simp
          go_simp
          refine wpAny_take (i := 12) (v := .string (s.extract a (a + k))) rfl (by kernel_rfl) (by kernel_rfl) (by kernel_rfl) (fun _ _ _ h => h) (Or.inl ⟨by rfl, ?_⟩) ?_
          · intro w
            go_simp
            rw [if_pos (by omega), if_pos (by omega), show ((a : Int) + (k : Int)).toNat = a + k from by omega]
          go_simp
          refine wpAny_ready (rs := [5]) (by kernel_rfl) (by simp) ?_
          refine AllReady.cons rfl (fun K hK => ?_) AllReady.nil
          go_simp
          go_wp2_with fail
          refine (cF _).mono ?_
          rintro e w2 ⟨v, rfl, hown, hb2⟩
          have hcv := hown.back (P := Tryd.prog) 43 9 Tryd.underlying43 Tryd.underlying5 Tryd.underlying9
          show K _ w2
          refine hK _ _ ?_
          clear hK K
          go_simp
          obtain ⟨B, hB⟩ : ∃ B, (fm == (s.extract a (a + k)).toList) = B := ⟨_, rfl⟩
          have HB : Hid (B = Pl.fits L) := show _ = _ from by
            rw [← hB, hfit.out, ByteArray.toList_eq, Hx.out]
            show (fm == L) = decide (fm = L)
            by_cases h : fm = L
            · simp [h]
            · rw [decide_eq_false h, beq_eq_false_iff_ne]
              exact h
          refine wpAny_ready (rs := [6]) (by kernel_rfl) (by simp) ?_
          refine AllReady.cons rfl (fun K hK => ?_) AllReady.nil
          go_simp
          refine hK _ _ ?_
          clear hK K
          go_simp
          refine wpAny_take (i := 13) (v := .bool B) rfl (by kernel_rfl) (by kernel_rfl) (by kernel_rfl) (fun _ _ _ h => h) (Or.inl ⟨by rfl, ?_⟩) ?_
          · intro w
            go_simp
          go_simp
          refine wpAny_take (i := 14) (v := .bool B) rfl (by kernel_rfl) (by kernel_rfl) (by kernel_rfl) (fun _ _ _ h => h) (Or.inl ⟨by rfl, ?_⟩) ?_
          · intro w
            go_simp
          go_simp
          refine wpAny_done (by kernel_rfl) ?_ _
          have hbz := mkHid (hbw.out.drew.trans (hb2.mono hbw.out.drew.size))
          clear hb2 hown hcv cF
          cases B
          · have hnext : Hid (Pl.takeFrom (s.data.toList.drop a) (5 - (k + 1)) (k + 1) = Z) := show _ = _ from by
              rw [← hp.out, hstep.out, ← HB.out]
              rfl
            clear hp hstep HB hfit
            go_wp2
            go_roundw
            case rel => exact ⟨k + 1, by omega, by omega, by go_num, hnext, hbz.out⟩
            case measure => simp [Lib.intOf]; omega
          · have hZ : Hid (Z = k) := show _ = _ from by
              rw [← hp.out, hstep.out, ← HB.out]
              rfl
            clear hp hstep HB hfit
            go_wp2
            refine bodyPost_ret (v := .tuple #[.int .i64 p, .int .i64 k]) (by simp [results, Tryd.results41, go_sem]) rfl ⟨p, by rw [hZ.out], hbz.out⟩
      · have hz : Hid (Z = 0) := show _ = _ from by rw [← hp.out, takeFrom_short _ _ _ (by simp; omega)]
        clear hp HZ
        go_wp2
        refine bodyPost_ret (v := .tuple #[.int .i64 0, .int .i64 0]) (by simp [results, Tryd.results41, go_sem]) rfl ⟨0, by rw [hz.out]; rfl, hb⟩
    · obtain rfl : k = 5 := by omega
      have hz : Hid (Z = 0) := show _ = _ from by rw [← hp.out]; rfl
      clear hp HZ
      go_wp2
      refine bodyPost_ret (v := .tuple #[.int .i64 0, .int .i64 0]) (by simp [results, Tryd.results41, go_sem]) rfl ⟨0, by rw [hz.out]; rfl, hb⟩
end Go.Proofs.YtpjpnjbegjiegaaDoor
