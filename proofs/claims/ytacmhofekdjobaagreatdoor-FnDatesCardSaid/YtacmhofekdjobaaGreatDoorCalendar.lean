
/- The walks of the day in the calendar. -/
import Derived.Test.YtacmhofekdjobaaGreatDoorDate
namespace Go.Proofs.YtacmhofekdjobaaGreatDoor
open Go.RowKit Go.Lib
/-- A year under way. -/
structure YearAt (d y : Int) : Prop where
  low : 1970 ≤ y
  beg : Pl.beg y ≤ d
  goal : Pl.yrF d (Pl.fuel d y) y = Pl.yr d
set_option maxRecDepth 20000 in
theorem YearAt.start (d : Int) (h0 : 0 ≤ d) : YearAt d (1970 + d / 366) := ⟨by omega, Pl.beg_first d h0, rfl⟩
set_option maxRecDepth 20000 in
theorem YearAt.next {d y : Int} (h : YearAt d y) (hb : Pl.beg (y + 1) ≤ d) : YearAt d (y + 1) := ⟨by have := h.low; omega, hb, by rw [← Pl.yrF_go d y h.low hb]; exact h.goal⟩
set_option maxRecDepth 20000 in
theorem YearAt.done {d y : Int} (h : YearAt d y) (hb : ¬ Pl.beg (y + 1) ≤ d) : Pl.yr d = y := by rw [← h.goal]; exact Pl.yrF_stop d y _ hb
set_option maxRecDepth 20000 in
theorem YearAt.high {d y : Int} (h : YearAt d y) (hd : d ≤ 2932896) : y ≤ 10005 := by
  have := Pl.beg_low y h.low
  have := h.beg
  omega
/-- A month under way. -/
structure MonthAt (d r m : Int) : Prop where
  one : 1 ≤ m
  twelve : m ≤ 12
  pos : 0 ≤ r
  lt : r < Pl.tail (Pl.yr d) m
  goal : Pl.moF (Pl.yr d) (13 - m).toNat r m = Pl.mo d
set_option maxRecDepth 20000 in
theorem MonthAt.start {d y : Int} (h : YearAt d y) (hb : ¬ Pl.beg (y + 1) ≤ d) : MonthAt d (d - Pl.beg y) 1 := by
  have e := h.done hb
  have hn := Pl.beg_next y
  have := h.beg
  refine ⟨by omega, by omega, by omega, ?_, ?_⟩
  · rw [e, Pl.tail_one]; omega
  · rw [Pl.mo, e]; rfl
set_option maxRecDepth 20000 in
theorem MonthAt.next {d r m : Int} (h : MonthAt d r m) (hr : Pl.dm (Pl.yr d) m ≤ r) : MonthAt d (r - Pl.dm (Pl.yr d) m) (m + 1) := by
  have hs := Pl.tail_step (Pl.yr d) m h.one h.twelve
  have hl := h.lt
  have h1 := h.one
  have hm : m ≠ 12 := by
    intro e
    have h2 := Pl.tail_end (Pl.yr d)
    rw [e, show ((12 : Int) + 1) = 13 from rfl, h2] at hs
    rw [e] at hl hr
    omega
  have h12 := h.twelve
  refine ⟨by omega, by omega, by omega, by omega, ?_⟩
  rw [show (13 - (m + 1)).toNat = (13 - m).toNat - 1 by omega, ← Pl.moF_go _ r m _ (by omega) h.one h.twelve hr]
  exact h.goal
set_option maxRecDepth 20000 in
theorem MonthAt.done {d r m : Int} (h : MonthAt d r m) (hr : ¬ Pl.dm (Pl.yr d) m ≤ r) : Pl.mo d = (m, r) := by rw [← h.goal]; exact Pl.moF_stop _ r m _ hr
set_option maxRecDepth 20000 in
theorem MonthAt.high {d r m : Int} (h : MonthAt d r m) : r < 400 := by
  have hl := h.lt
  have h1 := h.one
  have h2 := h.twelve
  unfold Pl.tail at hl
  rcases Pl.cases12 m h1 h2 with rfl | rfl | rfl | rfl | rfl | rfl | rfl | rfl | rfl | rfl | rfl | rfl <;> cases hp : Pl.leap (Pl.yr d) <;> simp [hp] at hl <;> omega
set_option maxRecDepth 20000 in
set_option maxHeartbeats 2000000 in
theorem implDay (d : Int) (w : World) (h0 : 0 ≤ d) (h1 : d ≤ 2932896) : Calls Tryz.prog 74 #[.int .i64 d] w fun e w' => e = .returned (.tuple #[.int .i64 (Pl.yr d), .int .i64 ((Pl.mo d).1 - 1), .int .i64 ((Pl.mo d).2 + 1)]) ∧ w = w' := by
  have HY := (show Hid _ from YearAt.start d h0)
  go_enter Tryz.func74, Tryz.ntmps74
  go_wp2
  go_loopw [2] (fun v wr => ∃ y : Int, v = .int .i64 y ∧ Hid (YearAt d y) ∧ wr = w) (fun v _ => (20000 - Lib.intOf v).toNat)
  case atStart => exact ⟨_, rfl, HY, rfl⟩
  case round =>
    clear HY
    obtain ⟨y, rfl, HY, rfl⟩ := hrel
    have hy0 := HY.out.low
    have hy1 := HY.out.high h1
    have hB := fun w => implBefore (y + 1) w (by omega) (by omega)
    by_cases hb : Pl.beg (y + 1) ≤ d
    · have HN := (show Hid _ from HY.out.next hb)
      clear HY
      generalize Pl.beg (y + 1) = b at *
      go_wp2_with (go_at_call 73; go_must (refine (hB _).mono ?_; rintro e w2 ⟨rfl, rfl⟩))
      go_roundw
      case rel => exact ⟨y + 1, rfl, HN, trivial⟩
      case measure => simp [Lib.intOf]; omega
    · have HD := (show Hid (Pl.yr d = y) from HY.out.done hb)
      have HM := (show Hid _ from MonthAt.start HY.out hb)
      have hC := fun w => implBefore y w (by omega) (by omega)
      have hbl := HY.out.beg
      have hbp : 0 ≤ Pl.beg y := by have := Pl.beg_low y hy0; omega
      have hb' : d < Pl.beg (y + 1) := by omega
      clear HY hb
      generalize Pl.beg (y + 1) = b at *
      generalize Pl.beg y = c at *
      go_wp2_with fail
      refine (hB _).mono ?_
      rintro e w2 ⟨rfl, rfl⟩
      go_wp2_with fail
      refine (hC _).mono ?_
      rintro e w2 ⟨rfl, rfl⟩
      clear hB hC
      go_wp2
      go_loopw [0, 3] (fun v u w9 => ∃ r m : Int, v = .int .i64 r ∧ u = .int .i64 (m - 1) ∧ Hid (MonthAt d r m) ∧ w9 = wr) (fun _ u _ => (20 - Lib.intOf u).toNat)
      case atStart => exact ⟨_, 1, rfl, rfl, HM, rfl⟩
      case round =>
        clear HM
        obtain ⟨r, m, rfl, rfl, HM, rfl⟩ := hrel
        have hm1 := HM.out.one
        have hm2 := HM.out.twelve
        have hr0 := HM.out.pos
        have hr1 := HM.out.high
        have hD := fun w => implDays y (m - 1) w (by omega) (by omega) (by omega) (by omega)
        simp only [show m - 1 + 1 = m by omega] at hD
        obtain ⟨hd0, hd1⟩ := Pl.dm_pos y m
        by_cases hr : Pl.dm y m ≤ r
        · have HN : Hid (MonthAt d (r - Pl.dm y m) (m + 1)) := show MonthAt _ _ _ from by
            have := HM.out.next (by rw [HD.out]; exact hr)
            rw [HD.out] at this
            exact this
          clear HM
          generalize Pl.dm y m = k at *
          go_wp2_with (go_at_call 33; go_must (refine (hD _).mono ?_; rintro e w3 ⟨rfl, rfl⟩))
          go_roundw
          case rel => exact ⟨r - k, m + 1, rfl, congrArg (Value.int .i64) (by omega), HN, trivial⟩
          case measure => simp [Lib.intOf]; omega
        · have HE : Hid (Pl.mo d = (m, r)) := HM.out.done (by rw [HD.out]; exact hr)
          have hr' : r < Pl.dm y m := by omega
          clear HM hr
          generalize Pl.dm y m = k at *
          go_wp2_with (go_at_call 33; go_must (refine (hD _).mono ?_; rintro e w3 ⟨rfl, rfl⟩))
          refine bodyPost_ret (v := .tuple #[.int .i64 y, .int .i64 (m - 1), .int .i64 (r + 1)]) (by simp [results, Tryz.results74, go_sem]) rfl ?_
          rw [HD.out, HE.out]
          exact ⟨rfl, rfl⟩
set_option maxRecDepth 20000 in
set_option maxHeartbeats 2000000 in
theorem specParts (t d : Int) (w : World) (ht0 : 0 ≤ t) (ht1 : t ≤ 253402300799) (hd : t / 86400 = d) (h0 : 0 ≤ d) (h1 : d ≤ 2932896) : Calls Tryz.prog 16 #[.int .i64 t] w fun e w' => e = .returned (.tuple #[.int .i64 (Pl.yr d), .int .i64 (Pl.mo d).1, .int .i64 ((Pl.mo d).2 + 1)]) ∧ w = w' := by
  have HY := (show Hid _ from YearAt.start d h0)
  go_enter Tryz.func16, Tryz.ntmps16
  go_wp2
  simp only [hd]
  clear hd ht0 ht1
  go_loopw [6] (fun v wr => ∃ y : Int, v = .int .i64 y ∧ Hid (YearAt d y) ∧ wr = w) (fun v _ => (20000 - Lib.intOf v).toNat)
  case atStart => exact ⟨_, rfl, HY, rfl⟩
  case round =>
    clear HY
    obtain ⟨y, rfl, HY, rfl⟩ := hrel
    have hy0 := HY.out.low
    have hy1 := HY.out.high h1
    have hB := fun w => specBegin (y + 1) w (by omega) (by omega)
    by_cases hb : Pl.beg (y + 1) ≤ d
    · have HN := (show Hid _ from HY.out.next hb)
      clear HY
      generalize Pl.beg (y + 1) = b at *
      go_wp2_with (go_at_call 42; go_must (refine (hB _).mono ?_; rintro e w2 ⟨rfl, rfl⟩))
      go_roundw
      case rel => exact ⟨y + 1, rfl, HN, trivial⟩
      case measure => simp [Lib.intOf]; omega
    · have HD := (show Hid (Pl.yr d = y) from HY.out.done hb)
      have HM := (show Hid _ from MonthAt.start HY.out hb)
      have hC := fun w => specBegin y w (by omega) (by omega)
      have hbl := HY.out.beg
      have hbp : 0 ≤ Pl.beg y := by have := Pl.beg_low y hy0; omega
      have hb' : d < Pl.beg (y + 1) := by omega
      clear HY hb
      generalize Pl.beg (y + 1) = b at *
      generalize Pl.beg y = c at *
      go_wp2_with fail
      refine (hB _).mono ?_
      rintro e w2 ⟨rfl, rfl⟩
      go_wp2_with fail
      refine (hC _).mono ?_
      rintro e w2 ⟨rfl, rfl⟩
      clear hB hC
      go_wp2
      go_loopw [5, 7] (fun v u w9 => ∃ r m : Int, v = .int .i64 r ∧ u = .int .i64 m ∧ Hid (MonthAt d r m) ∧ w9 = wr) (fun _ u _ => (20 - Lib.intOf u).toNat)
      case atStart => exact ⟨_, 1, rfl, rfl, HM, rfl⟩
      case round =>
        clear HM
        obtain ⟨r, m, rfl, rfl, HM, rfl⟩ := hrel
        have hm1 := HM.out.one
        have hm2 := HM.out.twelve
        have hr0 := HM.out.pos
        have hr1 := HM.out.high
        have hD := fun w => specDays y m w (by omega) (by omega) hm1 hm2
        obtain ⟨hd0, hd1⟩ := Pl.dm_pos y m
        by_cases hr : Pl.dm y m ≤ r
        · have HN : Hid (MonthAt d (r - Pl.dm y m) (m + 1)) := show MonthAt _ _ _ from by
            have := HM.out.next (by rw [HD.out]; exact hr)
            rw [HD.out] at this
            exact this
          clear HM
          generalize Pl.dm y m = k at *
          go_wp2_with (go_at_call 43; go_must (refine (hD _).mono ?_; rintro e w3 ⟨rfl, rfl⟩))
          go_roundw
          case rel => exact ⟨r - k, m + 1, rfl, rfl, HN, trivial⟩
          case measure => simp [Lib.intOf]; omega
        · have HE : Hid (Pl.mo d = (m, r)) := HM.out.done (by rw [HD.out]; exact hr)
          have hr' : r < Pl.dm y m := by omega
          clear HM hr
          generalize Pl.dm y m = k at *
          go_wp2_with (go_at_call 43; go_must (refine (hD _).mono ?_; rintro e w3 ⟨rfl, rfl⟩))
          refine bodyPost_ret (v := .tuple #[.int .i64 y, .int .i64 m, .int .i64 (r + 1)]) (by simp [results, Tryz.results16, go_sem]) rfl ?_
          rw [HD.out, HE.out]
          exact ⟨rfl, rfl⟩
end Go.Proofs.YtacmhofekdjobaaGreatDoor
