
/- The walks of the two WriteDate and of the two WriteStamp. -/
import Derived.Test.YtacmhofekdjobaaGreatDoorDateParts
import Derived.Lib.QuietBelow
import Derived.Lib.LaidTab
namespace Go.Proofs.YtacmhofekdjobaaGreatDoor
open Go.RowKit Go.Lib
namespace Pl
set_option maxRecDepth 20000 in
theorem year_end (d : Int) (h1 : d ≤ 2932896) : ∀ (n : Nat) (y : Int), (20000 - y).toNat ≤ n → YearAt d y → ∃ y, YearAt d y ∧ ¬ beg (y + 1) ≤ d := by
  intro n
  induction n with
  | zero =>
    intro y hn h
    have := h.high h1
    omega
  | succ n ih =>
    intro y hn h
    by_cases hb : beg (y + 1) ≤ d
    · exact ih (y + 1) (by omega) (h.next hb)
    · exact ⟨y, h, hb⟩
set_option maxRecDepth 20000 in
theorem month_end (d : Int) : ∀ (n : Nat) (r m : Int), (20 - m).toNat ≤ n → MonthAt d r m → ∃ r m, MonthAt d r m ∧ ¬ dm (yr d) m ≤ r := by
  intro n
  induction n with
  | zero =>
    intro r m hn h
    have := h.twelve
    omega
  | succ n ih =>
    intro r m hn h
    by_cases hb : dm (yr d) m ≤ r
    · exact ih _ (m + 1) (by omega) (h.next hb)
    · exact ⟨r, m, h, hb⟩
set_option maxRecDepth 20000 in
theorem bounds (d : Int) (h0 : 0 ≤ d) (h1 : d ≤ 2932896) : 1970 ≤ yr d ∧ yr d ≤ 9999 ∧ 1 ≤ (mo d).1 ∧ (mo d).1 ≤ 12 ∧ 0 ≤ (mo d).2 ∧ (mo d).2 ≤ 30 := by
  obtain ⟨y, hy, hb⟩ := year_end d h1 _ _ (Nat.le_refl _) (YearAt.start d h0)
  obtain ⟨r, m, hm, hr⟩ := month_end d _ _ _ (Nat.le_refl _) (MonthAt.start hy hb)
  rw [hm.done hr, hy.done hb]
  have := hy.low
  have h9 : y ≤ 9999 := by
    apply Int.le_of_lt_add_one
    apply Int.lt_of_not_ge
    intro h
    have := beg_end y (by omega)
    have := hy.beg
    omega
  have := hm.one
  have := hm.twelve
  have := hm.pos
  have := (dm_pos (yr d) m).2
  exact ⟨by omega, by omega, by omega, by omega, by omega, by omega⟩
def months : ByteArray := ⟨#[74, 97, 110, 70, 101, 98, 77, 97, 114, 65, 112, 114, 77, 97, 121, 74, 117, 110, 74, 117, 108, 65, 117, 103, 83, 101, 112, 79, 99, 116, 78, 111, 118, 68, 101, 99]⟩
def days : ByteArray := ⟨#[77, 111, 110, 84, 117, 101, 87, 101, 100, 84, 104, 117, 70, 114, 105, 83, 97, 116, 83, 117, 110]⟩
def monthN (j : Nat) : ByteArray := months.extract (3 * j) (3 * j + 3)
def dayN (j : Nat) : ByteArray := days.extract (3 * j) (3 * j + 3)
set_option maxRecDepth 20000 in
theorem month_size (j : Nat) (h : j < 12) : (monthN j).size = 3 := by
  rw [monthN, ByteArray.size_extract]
  show min (3 * j + 3) 36 - 3 * j = 3
  omega
set_option maxRecDepth 20000 in
theorem day_size (j : Nat) (h : j < 7) : (dayN j).size = 3 := by
  rw [dayN, ByteArray.size_extract]
  show min (3 * j + 3) 21 - 3 * j = 3
  omega
end Pl
def MTab (w : World) : Prop := ∀ j, j < 12 → w.cell? ⟨1, j, none⟩ = some (.string (Pl.monthN j))
def DTab (w : World) : Prop := ∀ j, j < 7 → w.cell? ⟨0, j, none⟩ = some (.string (Pl.dayN j))
abbrev PTab (w : World) : Prop := Lib.TabIs Tryz.prog w "internal/strconv.uint64pow10" .u64 Lib.pow10Tab
set_option maxRecDepth 20000 in
theorem cellB {w w' : World} (hb : Below w.heap.size w w') {a : Addr} {v : Value} (hc : w.cell? a = some v) : w'.cell? a = some v := by
  have : a.block < w.heap.size := by
    by_cases h : a.block < w.heap.size
    · exact h
    · have e : w.heap[a.block]? = none := Array.getElem?_eq_none (by omega)
      simp [World.cell?, e] at hc
  exact (hb.cell this).trans hc
set_option maxRecDepth 20000 in
theorem MTab.on {w w' : World} (h : MTab w) (hb : Below w.heap.size w w') : MTab w' := fun j hj => cellB hb (h j hj)
set_option maxRecDepth 20000 in
theorem DTab.on {w w' : World} (h : DTab w) (hb : Below w.heap.size w w') : DTab w' := fun j hj => cellB hb (h j hj)
set_option maxRecDepth 20000 in
theorem pGlob : Tryz.prog.globalNamed "internal/strconv.uint64pow10" = some 5 := by kernel_rfl
set_option maxRecDepth 20000 in
theorem ptab_on {w w' : World} (h : PTab w) (hb : Below w.heap.size w w') : PTab w' := by
  unfold PTab Lib.TabIs World.var? at h ⊢
  rw [pGlob] at h ⊢
  simp only [Option.bind_some] at h ⊢
  have hlt : 5 < w.heap.size := by
    rcases Nat.lt_or_ge 5 w.heap.size with h' | h'
    · exact h'
    · rw [Array.getElem?_eq_none h'] at h; cases h
  rw [hb.block _ hlt]
  exact h
def dateT (t z : Int) (b : ByteArray) : ByteArray := Pl.two ((Pl.mo (t / 86400)).2 + 1) ++ b ++ Pl.monthN ((Pl.mo (t / 86400)).1 - 1).toNat ++ b ++ (Pl.two (Pl.yr (t / 86400) / 100) ++ Pl.two (Pl.yr (t / 86400) % 100)) ++ ⟨#[32]⟩ ++ clockT t ++ ⟨#[32]⟩ ++ zoneT z
set_option maxRecDepth 20000 in
theorem implDayOf (x : Int) (w : World) (h0 : 0 ≤ x) (h1 : x ≤ 253402300799) : Calls Tryz.prog 9 #[.int .i64 x] w fun e w' => e = .returned (.int .i64 (x / 86400)) ∧ w = w' := by
  go_enter Tryz.func9, Tryz.ntmps9
  go_wp2
  go_ret
  exact ⟨rfl, rfl⟩
def dayT (d : Int) (b : ByteArray) : ByteArray := Pl.two ((Pl.mo d).2 + 1) ++ b ++ Pl.monthN ((Pl.mo d).1 - 1).toNat ++ b ++ (Pl.two (Pl.yr d / 100) ++ Pl.two (Pl.yr d % 100))
set_option maxRecDepth 20000 in
set_option maxHeartbeats 4000000 in
theorem implDayText (d : Int) (b : ByteArray) (w : World) (hb : b.size = 1) (hd0 : 0 ≤ d) (hd1 : d ≤ 2932896) (hM : MTab w) (hP : PTab w) :
    Calls Tryz.prog 39 #[.int .i64 d, .string b] w fun e w' => e = .returned (.string (dayT d b)) ∧ Below w.heap.size w w' := by
  unfold dayT
  have hD := implDay d w hd0 hd1
  obtain ⟨y0, y1, m0, m1, r0, r1⟩ := Pl.bounds d hd0 hd1
  generalize Pl.yr d = y at *
  generalize (Pl.mo d).1 = m at *
  generalize (Pl.mo d).2 = r at *
  obtain ⟨j, rfl⟩ : ∃ j : Nat, m = (j : Int) + 1 := ⟨(m - 1).toNat, by omega⟩
  rw [show ((j : Int) + 1 - 1) = (j : Int) by omega, Int.toNat_natCast]
  rw [show ((j : Int) + 1 - 1) = (j : Int) by omega] at hD
  have hj : j < 12 := by omega
  have zm := Pl.month_size j hj
  have hcell := hM j hj
  have p2 := fun w => implPad2 (r + 1) w (by omega) (by omega)
  have p4 := fun w h => implPad4 y w (by omega) (by omega) h
  have z2 := Pl.two_size (r + 1)
  have z4 : (Pl.two (y / 100) ++ Pl.two (y % 100)).size = 4 := by rw [ByteArray.size_append]; rfl
  generalize Pl.monthN j = mn at *
  generalize Pl.two (r + 1) = td at *
  generalize Pl.two (y / 100) ++ Pl.two (y % 100) = ty at *
  have k0 := cell_regrown hcell
  have c2 : ∀ d os, Calls Tryz.prog 75 #[.int .i64 (r + 1), .int .i64 2] (Go.Sort.grow (redrawn w d) os) fun e w'' => e = .returned (.string td) ∧ ∃ p : Regrown, w'' = Go.Sort.grow (redrawn w p.d) p.os := fun d os => Calls.regrown_of ((p2 _).mono fun e w' ⟨he, hw⟩ => ⟨he, by rw [hw]; exact Below.refl _ _⟩)
  have c4 : ∀ d os, Calls Tryz.prog 75 #[.int .i64 y, .int .i64 4] (Go.Sort.grow (redrawn w d) os) fun e w'' => e = .returned (.string ty) ∧ ∃ p : Regrown, w'' = Go.Sort.grow (redrawn w p.d) p.os := fun d os => Calls.regrown_of (p4 _ (ptab_on hP (below_regrown w d os)))
  have q0 : 0 ≤ r + 1 := by omega
  have q1 : r + 1 ≤ 31 := by omega
  generalize r + 1 = dd at *
  have HK := (show Hid _ from k0)
  have H2 := (show Hid _ from c2)
  have H4 := (show Hid _ from c4)
  clear p2 p4 hM hP hcell k0 c2 c4
  go_enter Tryz.func39, Tryz.ntmps39
  go_wp2_with fail
  refine hD.mono ?_
  rintro e w2 ⟨rfl, rfl⟩
  go_wp2
  refine wp_region_quiet_below (by kernel_rfl) (by kernel_rfl) ?_
  have k0 := HK.out
  have hjI : (j : Int) < 12 := by omega
  have n1 : ¬ 9223372036854775807 < td.size + b.size := by omega
  have n2 : ¬ 9223372036854775807 < td.size + b.size + mn.size := by omega
  have n3 : ¬ 9223372036854775807 < td.size + b.size + mn.size + b.size := by omega
  have n4 : ¬ 9223372036854775807 < td.size + b.size + mn.size + b.size + ty.size := by omega
  iterate 11 (quiet_step (exact H2.out _ _))
  quiet_step (exact H4.out _ _)
  repeat (quiet_step (fail))
  refine wpQuiet_nil ?_
  intro _ hw'
  obtain ⟨⟨dq, osq⟩, hw''⟩ := hw'
  subst hw''
  have hbq := (show Hid _ from below_regrown w dq osq)
  clear k0 n1 n2 n3 n4 HK H2 H4 hD
  generalize Go.Sort.grow (redrawn w dq) osq = wq at *
  go_wp2
  go_ret
  exact ⟨rfl, hbq.out⟩
set_option maxRecDepth 20000 in
theorem dayT_size (d : Int) (b : ByteArray) (hb : b.size = 1) (hd0 : 0 ≤ d) (hd1 : d ≤ 2932896) : (dayT d b).size = 11 := by
  obtain ⟨y0, y1, m0, m1, r0, r1⟩ := Pl.bounds d hd0 hd1
  have zm := Pl.month_size ((Pl.mo d).1 - 1).toNat (by omega)
  have z2 := Pl.two_size ((Pl.mo d).2 + 1)
  have z4 : (Pl.two (Pl.yr d / 100) ++ Pl.two (Pl.yr d % 100)).size = 4 := by rw [ByteArray.size_append]; rfl
  unfold dayT
  rw [ByteArray.size_append, ByteArray.size_append, ByteArray.size_append, ByteArray.size_append, zm, z2, z4, hb]
set_option maxRecDepth 20000 in
set_option maxHeartbeats 4000000 in
theorem implText (x z t : Int) (b : ByteArray) (w : World) (hb : b.size = 1) (ht : x + 60 * z = t) (h0 : 0 ≤ t) (h1 : t ≤ 253402300799) (hz0 : -1439 ≤ z) (hz1 : z ≤ 1439) (_hx0 : 0 ≤ x) (_hx1 : x ≤ 253402300799) (hM : MTab w) (hP : PTab w) :
    Calls Tryz.prog 14 #[.int .i64 x, .int .i64 z, .string b] w fun e w' => e = .returned (.string (dateT t z b)) ∧ Below w.heap.size w w' := by
  have hO := implDayOf t w h0 h1
  have hd0 : 0 ≤ t / 86400 := by omega
  have hd1 : t / 86400 ≤ 2932896 := by omega
  have hC := fun w => implClock t w h0 h1
  have hZ := fun w => implZone z w hz0 hz1
  have hT : Hid (Calls Tryz.prog 39 #[.int .i64 (t / 86400), .string b] w fun e w' => e = .returned (.string (dayT (t / 86400) b)) ∧ Below w.heap.size w w') := implDayText (t / 86400) b w hb hd0 hd1 hM hP
  have zx := dayT_size (t / 86400) b hb hd0 hd1
  have hdt : dateT t z b = dayT (t / 86400) b ++ ⟨#[32]⟩ ++ clockT t ++ ⟨#[32]⟩ ++ zoneT z := rfl
  rw [hdt]
  have zc := clock_size t
  have zz := zone_size z
  generalize dayT (t / 86400) b = dt at *
  generalize clockT t = tc at *
  generalize zoneT z = tz at *
  generalize t / 86400 = d at *
  clear hM hP hdt
  go_enter Tryz.func14, Tryz.ntmps14
  go_wp2_with fail
  refine hO.mono ?_
  rintro e w2 ⟨rfl, rfl⟩
  go_wp2_with fail
  refine hT.out.mono ?_
  rintro e wq ⟨rfl, hbq0⟩
  have hbq : Hid (Below w.heap.size w wq) := hbq0
  clear hbq0
  clear hT hO
  go_wp2_with fail
  refine (hC _).mono ?_
  rintro e w3 ⟨rfl, rfl⟩
  go_wp2_with fail
  refine (hZ _).mono ?_
  rintro e w3 ⟨rfl, rfl⟩
  go_wp2
  go_ret
  exact ⟨rfl, hbq.out⟩
def okD (x z : Int) : Bool := decide (-1439 ≤ z) && (decide (z ≤ 1439) && (decide (0 ≤ x) && (decide (x ≤ 253402300799) && (decide (0 ≤ x + 60 * z) && decide (x + 60 * z ≤ 253402300799)))))
set_option maxRecDepth 20000 in
theorem okD_yes {x z : Int} (h : okD x z = true) : -1439 ≤ z ∧ z ≤ 1439 ∧ 0 ≤ x ∧ x ≤ 253402300799 ∧ 0 ≤ x + 60 * z ∧ x + 60 * z ≤ 253402300799 := by
  simpa [okD] using h
set_option maxRecDepth 20000 in
theorem implIsTime (x : Int) (w : World) : Calls Tryz.prog 35 #[.int .i64 x] w fun e w' => e = .returned (.bool (decide (0 ≤ x) && decide (x ≤ 253402300799))) ∧ w = w' := by
  by_cases h : 0 ≤ x
  · rw [decide_eq_true h, Bool.true_and]
    go_enter Tryz.func35, Tryz.ntmps35
    go_wp2
    go_ret
    exact ⟨rfl, rfl⟩
  · rw [decide_eq_false h, Bool.false_and]
    go_enter Tryz.func35, Tryz.ntmps35
    go_wp2
    go_ret
    exact ⟨rfl, rfl⟩
set_option maxRecDepth 20000 in
theorem implIsZone (x : Int) (w : World) : Calls Tryz.prog 38 #[.int .i64 x] w fun e w' => e = .returned (.bool (decide (-1439 ≤ x) && decide (x ≤ 1439))) ∧ w = w' := by
  by_cases h : -1439 ≤ x
  · rw [decide_eq_true h, Bool.true_and]
    go_enter Tryz.func38, Tryz.ntmps38
    go_wp2
    go_ret
    exact ⟨rfl, rfl⟩
  · rw [decide_eq_false h, Bool.false_and]
    go_enter Tryz.func38, Tryz.ntmps38
    go_wp2
    go_ret
    exact ⟨rfl, rfl⟩
set_option maxRecDepth 20000 in
set_option maxHeartbeats 1000000 in
theorem implIsDate (x z : Int) (w : World) : Calls Tryz.prog 13 #[.int .i64 x, .int .i64 z] w fun e w' => e = .returned (.bool (okD x z)) ∧ w = w' := by
  have hZ := implIsZone z w
  have hT := implIsTime x w
  by_cases hz : -1439 ≤ z ∧ z ≤ 1439
  · obtain ⟨z0, z1⟩ := hz
    rw [decide_eq_true z0, decide_eq_true z1, Bool.true_and] at hZ
    by_cases hx : 0 ≤ x ∧ x ≤ 253402300799
    · obtain ⟨x0, x1⟩ := hx
      rw [decide_eq_true x0, decide_eq_true x1, Bool.true_and] at hT
      have hL := implIsTime (x + 60 * z) w
      have e : okD x z = (decide (0 ≤ x + 60 * z) && decide (x + 60 * z ≤ 253402300799)) := by
        rw [okD, decide_eq_true z0, decide_eq_true z1, decide_eq_true x0, decide_eq_true x1]; rfl
      rw [e]
      clear e
      generalize (decide (0 ≤ x + 60 * z) && decide (x + 60 * z ≤ 253402300799)) = b at *
      go_enter Tryz.func13, Tryz.ntmps13
      go_wp2_with fail
      refine hZ.mono ?_
      rintro e w2 ⟨rfl, rfl⟩
      go_wp2_with fail
      refine hT.mono ?_
      rintro e w2 ⟨rfl, rfl⟩
      go_wp2_with fail
      refine hL.mono ?_
      rintro e w2 ⟨rfl, rfl⟩
      go_wp2
      go_ret
      exact ⟨rfl, rfl⟩
    · have e1 : (decide (0 ≤ x) && decide (x ≤ 253402300799)) = false := by simp; omega
      rw [e1] at hT
      have e : okD x z = false := by
        rw [okD, ← Bool.and_assoc (decide (0 ≤ x)), e1]; simp
      rw [e]
      clear e e1 hx
      go_enter Tryz.func13, Tryz.ntmps13
      go_wp2_with fail
      refine hZ.mono ?_
      rintro e w2 ⟨rfl, rfl⟩
      go_wp2_with fail
      refine hT.mono ?_
      rintro e w2 ⟨rfl, rfl⟩
      go_wp2
      go_ret
      exact ⟨rfl, rfl⟩
  · have e1 : (decide (-1439 ≤ z) && decide (z ≤ 1439)) = false := by simp; omega
    rw [e1] at hZ
    have e : okD x z = false := by
      rw [okD, ← Bool.and_assoc (decide (-1439 ≤ z)), e1]; simp
    rw [e]
    clear e e1 hz
    go_enter Tryz.func13, Tryz.ntmps13
    go_wp2_with fail
    refine hZ.mono ?_
    rintro e w2 ⟨rfl, rfl⟩
    go_wp2
    go_ret
    exact ⟨rfl, rfl⟩
def stampT (x z : Int) : ByteArray := if okD x z then dateT (x + 60 * z) z ⟨#[45]⟩ else ⟨#[]⟩
set_option maxRecDepth 20000 in
set_option maxHeartbeats 1000000 in
theorem implStamp (x z : Int) (w : World) (hM : MTab w) (hP : PTab w) : Calls Tryz.prog 7 #[.int .i64 x, .int .i64 z] w fun e w' => e = .returned (.string (stampT x z)) ∧ Below w.heap.size w w' := by
  have hD := implIsDate x z w
  unfold stampT
  cases hok : okD x z
  · rw [hok] at hD
    clear hM hP
    go_enter Tryz.func7, Tryz.ntmps7
    go_wp2_with fail
    refine hD.mono ?_
    rintro e w2 ⟨rfl, rfl⟩
    go_wp2
    go_ret
    exact ⟨rfl, Below.refl _ _⟩
  · rw [hok] at hD
    obtain ⟨z0, z1, x0, x1, t0, t1⟩ := okD_yes hok
    have hT := implText x z (x + 60 * z) ⟨#[45]⟩ w rfl rfl t0 t1 z0 z1 x0 x1 hM hP
    rw [if_pos rfl]
    generalize dateT (x + 60 * z) z ⟨#[45]⟩ = r at *
    clear hM hP hok
    go_enter Tryz.func7, Tryz.ntmps7
    go_wp2_with fail
    refine hD.mono ?_
    rintro e w2 ⟨rfl, rfl⟩
    go_wp2_with fail
    refine hT.mono ?_
    rintro e w2 ⟨rfl, hb⟩
    go_wp2
    go_ret
    exact ⟨rfl, hb⟩
def fullT (x z : Int) : ByteArray := if okD x z then Pl.dayN ((3 + (x + 60 * z) / 86400) % 7).toNat ++ ⟨#[44, 32]⟩ ++ dateT (x + 60 * z) z ⟨#[32]⟩ else ⟨#[]⟩
set_option maxRecDepth 20000 in
theorem date_size (t z : Int) (b : ByteArray) (hb : b.size = 1) (h0 : 0 ≤ t) (h1 : t ≤ 253402300799) : (dateT t z b).size = 26 := by
  obtain ⟨_, _, m0, m1, _, _⟩ := Pl.bounds (t / 86400) (by omega) (by omega)
  have zm := Pl.month_size ((Pl.mo (t / 86400)).1 - 1).toNat (by omega)
  simp only [dateT, ByteArray.size_append, Pl.two_size, clock_size, zone_size, zm, hb]
  rfl
set_option maxRecDepth 20000 in
set_option maxHeartbeats 1000000 in
theorem implDate (x z : Int) (w : World) (hM : MTab w) (hN : DTab w) (hP : PTab w) : Calls Tryz.prog 5 #[.int .i64 x, .int .i64 z] w fun e w' => e = .returned (.string (fullT x z)) ∧ Below w.heap.size w w' := by
  have hD := implIsDate x z w
  unfold fullT
  cases hok : okD x z
  · rw [hok] at hD
    clear hM hP hN
    go_enter Tryz.func5, Tryz.ntmps5
    go_wp2_with fail
    refine hD.mono ?_
    rintro e w2 ⟨rfl, rfl⟩
    go_wp2
    go_ret
    exact ⟨rfl, Below.refl _ _⟩
  · rw [hok] at hD
    obtain ⟨z0, z1, x0, x1, t0, t1⟩ := okD_yes hok
    have hT := fun w hM hP => implText x z (x + 60 * z) ⟨#[32]⟩ w rfl rfl t0 t1 z0 z1 x0 x1 hM hP
    have hO := implDayOf (x + 60 * z) w t0 t1
    have zr := date_size (x + 60 * z) z ⟨#[32]⟩ rfl t0 t1
    rw [if_pos rfl]
    generalize dateT (x + 60 * z) z ⟨#[32]⟩ = r at *
    have hd0 : 0 ≤ (x + 60 * z) / 86400 := by omega
    have hd1 : (x + 60 * z) / 86400 ≤ 2932896 := by omega
    generalize (x + 60 * z) / 86400 = d at *
    obtain ⟨j, hj⟩ : ∃ j : Nat, (3 + d) % 7 = (j : Int) := ⟨((3 + d) % 7).toNat, by omega⟩
    have hj7 : j < 7 := by omega
    have hjI : (j : Int) < 7 := by omega
    rw [hj, Int.toNat_natCast]
    have zd := Pl.day_size j hj7
    have k0 := cell_regrown (hN j hj7)
    have c1 : ∀ d os, Calls Tryz.prog 14 #[.int .i64 x, .int .i64 z, .string ⟨#[32]⟩] (Go.Sort.grow (redrawn w d) os) fun e w'' => e = .returned (.string r) ∧ ∃ p : Regrown, w'' = Go.Sort.grow (redrawn w p.d) p.os := fun d os => Calls.regrown_of (hT _ (hM.on (below_regrown w d os)) (ptab_on hP (below_regrown w d os)))
    generalize Pl.dayN j = dn at *
    have HK := (show Hid _ from k0)
    have H1 := (show Hid _ from c1)
    clear hM hP hN hok hT k0 c1
    go_enter Tryz.func5, Tryz.ntmps5
    go_wp2_with fail
    refine hD.mono ?_
    rintro e w2 ⟨rfl, rfl⟩
    go_wp2_with fail
    refine hO.mono ?_
    rintro e w2 ⟨rfl, rfl⟩
    go_wp2
    try simp only [hj]
    have k0 := HK.out
    have n1 : ¬ 9223372036854775807 < dn.size + 2 := by omega
    have n2 : ¬ 9223372036854775807 < dn.size + 2 + r.size := by omega
    refine wp_region_quiet_below (by kernel_rfl) (by kernel_rfl) ?_
    repeat (quiet_step (exact H1.out _ _))
    refine wpQuiet_nil ?_
    intro _ hw'
    obtain ⟨⟨dq, osq⟩, hw''⟩ := hw'
    subst hw''
    go_wp2
    go_ret
    exact ⟨rfl, below_regrown _ dq osq⟩
end Go.Proofs.YtacmhofekdjobaaGreatDoor
