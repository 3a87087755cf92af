
/- The walks of the two WriteDate and of the two WriteStamp. -/

/- The walks of the model's WriteDate and WriteStamp. -/
import Derived.Test.YtillilllceeonaaDoorDateParts
import Derived.Lib.QuietBelow
import Derived.Lib.LaidTab
namespace Go.Proofs.YtillilllceeonaaDoor
open Go.RowKit Go.Lib
namespace Pl
set_option maxRecDepth 20000 in
theorem year_end (d : Int) (h1 : d ≤ 2932896) : ∀ (n : Nat) (y : Int), (20000 - y).toNat ≤ n → YearAt d y → ∃ y, YearAt d y ∧ ¬ beg (y + 1) ≤ d := by
  intro n
  induction n with
  | zero =>
    intro y hn h
    have := h.high h1
    omega
  | succ n ih =>
    intro y hn h
    by_cases hb : beg (y + 1) ≤ d
    · exact ih (y + 1) (by omega) (h.next hb)
    · exact ⟨y, h, hb⟩
set_option maxRecDepth 20000 in
theorem month_end (d : Int) : ∀ (n : Nat) (r m : Int), (20 - m).toNat ≤ n → MonthAt d r m → ∃ r m, MonthAt d r m ∧ ¬ dm (yr d) m ≤ r := by
  intro n
  induction n with
  | zero =>
    intro r m hn h
    have := h.twelve
    omega
  | succ n ih =>
    intro r m hn h
    by_cases hb : dm (yr d) m ≤ r
    · exact ih _ (m + 1) (by omega) (h.next hb)
    · exact ⟨r, m, h, hb⟩
set_option maxRecDepth 20000 in
theorem bounds (d : Int) (h0 : 0 ≤ d) (h1 : d ≤ 2932896) : 1970 ≤ yr d ∧ yr d ≤ 9999 ∧ 1 ≤ (mo d).1 ∧ (mo d).1 ≤ 12 ∧ 0 ≤ (mo d).2 ∧ (mo d).2 ≤ 30 := by
  obtain ⟨y, hy, hb⟩ := year_end d h1 _ _ (Nat.le_refl _) (YearAt.start d h0)
  obtain ⟨r, m, hm, hr⟩ := month_end d _ _ _ (Nat.le_refl _) (MonthAt.start hy hb)
  rw [hm.done hr, hy.done hb]
  have := hy.low
  have h9 : y ≤ 9999 := by
    apply Int.le_of_lt_add_one
    apply Int.lt_of_not_ge
    intro h
    have := beg_end y (by omega)
    have := hy.beg
    omega
  have := hm.one
  have := hm.twelve
  have := hm.pos
  have := (dm_pos (yr d) m).2
  exact ⟨by omega, by omega, by omega, by omega, by omega, by omega⟩
def months : ByteArray := ⟨#[74, 97, 110, 70, 101, 98, 77, 97, 114, 65, 112, 114, 77, 97, 121, 74, 117, 110, 74, 117, 108, 65, 117, 103, 83, 101, 112, 79, 99, 116, 78, 111, 118, 68, 101, 99]⟩
def days : ByteArray := ⟨#[77, 111, 110, 84, 117, 101, 87, 101, 100, 84, 104, 117, 70, 114, 105, 83, 97, 116, 83, 117, 110]⟩
def monthN (j : Nat) : ByteArray := months.extract (3 * j) (3 * j + 3)
def dayN (j : Nat) : ByteArray := days.extract (3 * j) (3 * j + 3)
set_option maxRecDepth 20000 in
theorem month_size (j : Nat) (h : j < 12) : (monthN j).size = 3 := by
  rw [monthN, ByteArray.size_extract]
  show min (3 * j + 3) 36 - 3 * j = 3
  omega
set_option maxRecDepth 20000 in
theorem day_size (j : Nat) (h : j < 7) : (dayN j).size = 3 := by
  rw [dayN, ByteArray.size_extract]
  show min (3 * j + 3) 21 - 3 * j = 3
  omega
end Pl
abbrev PTab (w : World) : Prop := Lib.TabIs Tryd.prog w "internal/strconv.uint64pow10" .u64 Lib.pow10Tab
set_option maxRecDepth 20000 in
theorem cellB {w w' : World} (hb : Below w.heap.size w w') {a : Addr} {v : Value} (hc : w.cell? a = some v) : w'.cell? a = some v := by
  have : a.block < w.heap.size := by
    by_cases h : a.block < w.heap.size
    · exact h
    · have e : w.heap[a.block]? = none := Array.getElem?_eq_none (by omega)
      simp [World.cell?, e] at hc
  exact (hb.cell this).trans hc
def dateT (t z : Int) (b : ByteArray) : ByteArray := Pl.two ((Pl.mo (t / 86400)).2 + 1) ++ b ++ Pl.monthN ((Pl.mo (t / 86400)).1 - 1).toNat ++ b ++ (Pl.two (Pl.yr (t / 86400) / 100) ++ Pl.two (Pl.yr (t / 86400) % 100)) ++ ⟨#[32]⟩ ++ clockT t ++ ⟨#[32]⟩ ++ zoneT z
def dayT (d : Int) (b : ByteArray) : ByteArray := Pl.two ((Pl.mo d).2 + 1) ++ b ++ Pl.monthN ((Pl.mo d).1 - 1).toNat ++ b ++ (Pl.two (Pl.yr d / 100) ++ Pl.two (Pl.yr d % 100))
set_option maxRecDepth 20000 in
theorem dayT_size (d : Int) (b : ByteArray) (hb : b.size = 1) (hd0 : 0 ≤ d) (hd1 : d ≤ 2932896) : (dayT d b).size = 11 := by
  obtain ⟨y0, y1, m0, m1, r0, r1⟩ := Pl.bounds d hd0 hd1
  have zm := Pl.month_size ((Pl.mo d).1 - 1).toNat (by omega)
  have z2 := Pl.two_size ((Pl.mo d).2 + 1)
  have z4 : (Pl.two (Pl.yr d / 100) ++ Pl.two (Pl.yr d % 100)).size = 4 := by rw [ByteArray.size_append]; rfl
  unfold dayT
  rw [ByteArray.size_append, ByteArray.size_append, ByteArray.size_append, ByteArray.size_append, zm, z2, z4, hb]
def okD (x z : Int) : Bool := decide (-1439 ≤ z) && (decide (z ≤ 1439) && (decide (0 ≤ x) && (decide (x ≤ 253402300799) && (decide (0 ≤ x + 60 * z) && decide (x + 60 * z ≤ 253402300799)))))
set_option maxRecDepth 20000 in
theorem okD_yes {x z : Int} (h : okD x z = true) : -1439 ≤ z ∧ z ≤ 1439 ∧ 0 ≤ x ∧ x ≤ 253402300799 ∧ 0 ≤ x + 60 * z ∧ x + 60 * z ≤ 253402300799 := by
  simpa [okD] using h
def stampT (x z : Int) : ByteArray := if okD x z then dateT (x + 60 * z) z ⟨#[45]⟩ else ⟨#[]⟩
def fullT (x z : Int) : ByteArray := if okD x z then Pl.dayN ((3 + (x + 60 * z) / 86400) % 7).toNat ++ ⟨#[44, 32]⟩ ++ dateT (x + 60 * z) z ⟨#[32]⟩ else ⟨#[]⟩
set_option maxRecDepth 20000 in
theorem date_size (t z : Int) (b : ByteArray) (hb : b.size = 1) (h0 : 0 ≤ t) (h1 : t ≤ 253402300799) : (dateT t z b).size = 26 := by
  obtain ⟨_, _, m0, m1, _, _⟩ := Pl.bounds (t / 86400) (by omega) (by omega)
  have zm := Pl.month_size ((Pl.mo (t / 86400)).1 - 1).toNat (by omega)
  simp only [dateT, ByteArray.size_append, Pl.two_size, clock_size, zone_size, zm, hb]
  rfl
end Go.Proofs.YtillilllceeonaaDoor
namespace Go.Proofs.YtillilllceeonaaDoor
open Go.RowKit Go.Lib
set_option maxRecDepth 20000 in
theorem specMonths (w : World) : Calls Tryd.prog 66 #[] w fun e w' => e = .returned (.string Pl.months) ∧ w' = w := by
  go_enter Tryd.func66, Tryd.ntmps66
  go_wp2
  go_ret
  exact ⟨rfl, rfl⟩
set_option maxRecDepth 20000 in
set_option maxHeartbeats 1000000 in
theorem specLocal (x z : Int) (w : World) : Calls Tryd.prog 63 #[.int .i64 x, .int .i64 z] w fun e w' => e = .returned (.int .i64 (if okD x z then x + 60 * z else -1)) ∧ w = w' := by
  rcases Int.lt_or_le z (-1439) with h | h
  · rw [show okD x z = false from by simp [okD]; omega]
    go_enter Tryd.func63, Tryd.ntmps63
    go_wp2
    go_ret
    exact ⟨rfl, rfl⟩
  rcases Int.lt_or_le 1439 z with h1 | h1
  · rw [show okD x z = false from by simp [okD]; omega]
    go_enter Tryd.func63, Tryd.ntmps63
    go_wp2
    go_ret
    exact ⟨rfl, rfl⟩
  rcases Int.lt_or_le x 0 with h2 | h2
  · rw [show okD x z = false from by simp [okD]; omega]
    go_enter Tryd.func63, Tryd.ntmps63
    go_wp2
    go_ret
    exact ⟨rfl, rfl⟩
  rcases Int.lt_or_le 253402300799 x with h3 | h3
  · rw [show okD x z = false from by simp [okD]; omega]
    go_enter Tryd.func63, Tryd.ntmps63
    go_wp2
    go_ret
    exact ⟨rfl, rfl⟩
  rcases Int.lt_or_le (x + 60 * z) 0 with h4 | h4
  · rw [show okD x z = false from by simp [okD]; omega]
    go_enter Tryd.func63, Tryd.ntmps63
    go_wp2
    go_ret
    exact ⟨rfl, rfl⟩
  rcases Int.lt_or_le 253402300799 (x + 60 * z) with h5 | h5
  · rw [show okD x z = false from by simp [okD]; omega]
    go_enter Tryd.func63, Tryd.ntmps63
    go_wp2
    go_ret
    exact ⟨rfl, rfl⟩
  · rw [show okD x z = true from by simp [okD]; omega, if_pos rfl]
    go_enter Tryd.func63, Tryd.ntmps63
    go_wp2
    go_ret
    exact ⟨rfl, rfl⟩
set_option maxRecDepth 20000 in
theorem wrap_in (n : Int) (h0 : -9223372036854775808 ≤ n) (h1 : n ≤ 9223372036854775807) : IntKind.i64.wrap n = n := by
  simp only [IntKind.wrap, IntKind.bits, IntKind.signed, Bool.true_and]
  split <;> rename_i h <;> simp at h <;> omega
set_option maxRecDepth 20000 in
set_option maxHeartbeats 4000000 in
theorem specDate (x z : Int) (w : World) : Calls Tryd.prog 49 #[.int .i64 x, .int .i64 z] w fun e w' => e = .returned (.string (fullT x z)) ∧ Below w.heap.size w w' := by
  have hL := specLocal x z w
  unfold fullT
  cases hok : okD x z
  · rw [hok] at hL
    simp only [Bool.false_eq_true, if_false] at hL
    go_enter Tryd.func49, Tryd.ntmps49
    go_wp2_with fail
    refine hL.mono ?_
    rintro e w2 ⟨rfl, rfl⟩
    go_wp2
    go_ret
    exact ⟨rfl, Below.refl _ _⟩
  · rw [hok, if_pos rfl] at hL
    obtain ⟨z0, z1, x0, x1, t0, t1⟩ := okD_yes hok
    clear hok x0 x1
    generalize x + 60 * z = t at *
    rw [if_pos rfl]
    have hd0 : 0 ≤ t / 86400 := by omega
    have hd1 : t / 86400 ≤ 2932896 := by omega
    have hC := fun w => specClock t w t0 t1
    have hZ := fun w => specZone z w z0 z1
    unfold dateT
    have hD := specParts t (t / 86400) w t0 t1 rfl hd0 hd1
    obtain ⟨y0, y1, m0, m1, r0, r1⟩ := Pl.bounds (t / 86400) hd0 hd1
    generalize Pl.yr (t / 86400) = y at *
    generalize (Pl.mo (t / 86400)).1 = m at *
    generalize (Pl.mo (t / 86400)).2 = r at *
    have hY := fun w => specYear y w (by omega) (by omega)
    have h2 := fun w => specTwo (r + 1) w (by omega) (by omega)
    have hm := fun w => specMonths w
    obtain ⟨j, rfl⟩ : ∃ j : Nat, m = (j : Int) + 1 := ⟨(m - 1).toNat, by omega⟩
    rw [show ((j : Int) + 1 - 1) = (j : Int) by omega, Int.toNat_natCast]
    have hj : j < 12 := by omega
    have zm := Pl.month_size j hj
    have z2 := Pl.two_size (r + 1)
    have z4 : (Pl.two (y / 100) ++ Pl.two (y % 100)).size = 4 := by rw [ByteArray.size_append]; rfl
    have zc := clock_size t
    have zz := zone_size z
    have zs : Pl.months.size = 36 := rfl
    obtain ⟨i, hi⟩ : ∃ i : Nat, (t / 86400 + 3) % 7 = (i : Int) := ⟨((t / 86400 + 3) % 7).toNat, by omega⟩
    have hi7 : i < 7 := by omega
    rw [show (3 + t / 86400) % 7 = (i : Int) by omega, Int.toNat_natCast]
    have zd := Pl.day_size i hi7
    obtain ⟨p, hp⟩ : ∃ p : Nat, 3 * i = p := ⟨_, rfl⟩
    obtain ⟨q, hq⟩ : ∃ q : Nat, 3 * i + 3 = q := ⟨_, rfl⟩
    have hda : ByteArray.extract ⟨#[77, 111, 110, 84, 117, 101, 87, 101, 100, 84, 104, 117, 70, 114, 105, 83, 97, 116, 83, 117, 110]⟩ p q = Pl.dayN i := by rw [← hp, ← hq]; rfl
    have w3 : IntKind.i64.wrap (3 * (i : Int)) = (p : Int) := by rw [wrap_in _ (by omega) (by omega)]; omega
    have w4 : IntKind.i64.wrap ((p : Int) + 3) = (q : Int) := by rw [wrap_in _ (by omega) (by omega)]; omega
    have f3 : (q : Int) ≤ 21 := by omega
    have f4 : (p : Int) ≤ (q : Int) := by omega
    clear hp hq
    generalize Pl.dayN i = dn at *
    obtain ⟨a, ha⟩ : ∃ a : Nat, 3 * j = a := ⟨_, rfl⟩
    obtain ⟨c, hc⟩ : ∃ c : Nat, 3 * j + 3 = c := ⟨_, rfl⟩
    have hmo : Pl.months.extract a c = Pl.monthN j := by rw [← ha, ← hc]; rfl
    have w1 : IntKind.i64.wrap (3 * ((j : Int) + 1)) = (c : Int) := by rw [wrap_in _ (by omega) (by omega)]; omega
    have w2 : IntKind.i64.wrap ((c : Int) - 3) = (a : Int) := by rw [wrap_in _ (by omega) (by omega)]; omega
    have f1 : (c : Int) ≤ 36 := by omega
    have f2 : (a : Int) ≤ (c : Int) := by omega
    clear ha hc
    generalize Pl.monthN j = mn at *
    generalize Pl.two (r + 1) = td at *
    generalize Pl.two (y / 100) ++ Pl.two (y % 100) = ty at *
    generalize clockT t = tc at *
    generalize zoneT z = tz at *
    generalize Pl.months = ms at *
    have q0 : 0 ≤ r + 1 := by omega
    have q1 : r + 1 ≤ 31 := by omega
    generalize r + 1 = dd at *
    have cY : ∀ d os, Calls Tryd.prog 67 #[.int .i64 y] (Go.Sort.grow (redrawn w d) os) fun e w'' => e = .returned (.string ty) ∧ ∃ p : Regrown, w'' = Go.Sort.grow (redrawn w p.d) p.os := fun d os => Calls.regrown_of (hY _)
    have c2 : ∀ d os, Calls Tryd.prog 65 #[.int .i64 dd] (Go.Sort.grow (redrawn w d) os) fun e w'' => e = .returned (.string td) ∧ ∃ p : Regrown, w'' = Go.Sort.grow (redrawn w p.d) p.os := fun d os => Calls.regrown_of (h2 _)
    have cM : ∀ d os, Calls Tryd.prog 66 #[] (Go.Sort.grow (redrawn w d) os) fun e w'' => e = .returned (.string ms) ∧ ∃ p : Regrown, w'' = Go.Sort.grow (redrawn w p.d) p.os := fun d os => Calls.regrown_of ((hm _).mono fun e w' ⟨he, hw⟩ => ⟨he, by rw [hw]; exact Below.refl _ _⟩)
    have cC : ∀ d os, Calls Tryd.prog 68 #[.int .i64 t] (Go.Sort.grow (redrawn w d) os) fun e w'' => e = .returned (.string tc) ∧ ∃ p : Regrown, w'' = Go.Sort.grow (redrawn w p.d) p.os := fun d os => Calls.regrown_of (hC _)
    have cZ : ∀ d os, Calls Tryd.prog 69 #[.int .i64 z] (Go.Sort.grow (redrawn w d) os) fun e w'' => e = .returned (.string tz) ∧ ∃ p : Regrown, w'' = Go.Sort.grow (redrawn w p.d) p.os := fun d os => Calls.regrown_of (hZ _)
    have HY := (show Hid _ from cY)
    have H2 := (show Hid _ from c2)
    have HM := (show Hid _ from cM)
    have HC := (show Hid _ from cC)
    have HZ := (show Hid _ from cZ)
    clear cY c2 cM cC cZ hY h2 hm hC hZ m0 m1 hd0 hd1
    go_enter Tryd.func49, Tryd.ntmps49
    go_wp2_with fail
    refine hL.mono ?_
    rintro e w2 ⟨rfl, rfl⟩
    go_wp2_with fail
    refine hD.mono ?_
    rintro e w2 ⟨rfl, rfl⟩
    clear hL hD
    go_wp2
    try simp only [hi]
    refine wp_region_quiet_below (by kernel_rfl) (by kernel_rfl) ?_
    have n0 : ¬ 9223372036854775807 < dn.size + 2 := by omega
    have n1 : ¬ 9223372036854775807 < dn.size + 2 + td.size := by omega
    have n2 : ¬ 9223372036854775807 < dn.size + 2 + td.size + 1 := by omega
    have n3 : ¬ 9223372036854775807 < dn.size + 2 + td.size + 1 + mn.size := by omega
    have n4 : ¬ 9223372036854775807 < dn.size + 2 + td.size + 1 + mn.size + 1 := by omega
    have n5 : ¬ 9223372036854775807 < dn.size + 2 + td.size + 1 + mn.size + 1 + ty.size := by omega
    have n6 : ¬ 9223372036854775807 < dn.size + 2 + td.size + 1 + mn.size + 1 + ty.size + 1 := by omega
    have n7 : ¬ 9223372036854775807 < dn.size + 2 + td.size + 1 + mn.size + 1 + ty.size + 1 + tc.size := by omega
    have n8 : ¬ 9223372036854775807 < dn.size + 2 + td.size + 1 + mn.size + 1 + ty.size + 1 + tc.size + 1 := by omega
    have n9 : ¬ 9223372036854775807 < dn.size + 2 + td.size + 1 + mn.size + 1 + ty.size + 1 + tc.size + 1 + tz.size := by omega
    iterate 8 (quiet_step (fail))
    quiet_step (exact H2.out _ _)
    iterate 2 (quiet_step (fail))
    quiet_step (exact HM.out _ _)
    iterate 9 (quiet_step (fail))
    quiet_step (exact HY.out _ _)
    iterate 3 (quiet_step (fail))
    quiet_step (exact HC.out _ _)
    iterate 3 (quiet_step (fail))
    quiet_step (exact HZ.out _ _)
    repeat (quiet_step (fail))
    refine wpQuiet_nil ?_
    intro _ hw'
    obtain ⟨⟨dq, osq⟩, hw''⟩ := hw'
    subst hw''
    go_wp2
    go_ret
    refine ⟨?_, below_regrown _ dq osq⟩
    simp only [ByteArray.append_assoc]
    rfl
end Go.Proofs.YtillilllceeonaaDoor
