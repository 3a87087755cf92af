
/- The walks of a reader of dates: numbers, a year, a clock, a zone. -/
import Derived.Test.YtacmhofekdjobaaGreatDoorDateRead2
import Derived.Lib.ParseIntBCases
import Derived.Lib.AtoiTie
namespace Go.Proofs.YtacmhofekdjobaaGreatDoor
open Go.RowKit Go.Lib
/-- The number that digits spell. -/
def numF (a : Nat) : List UInt8 → Nat
  | [] => a
  | c :: r => numF (a * 10 + (c.toNat - 48)) r
set_option maxRecDepth 20000 in
theorem num_dec : ∀ (l : List UInt8) (a : Nat), l.all Pl.digit = true → Lib.decFrom a l = some (numF a l) := by
  intro l
  induction l with
  | nil => intro a _; rfl
  | cons c r ih =>
    intro a hd
    simp only [List.all_cons, Bool.and_eq_true] at hd
    have hc : 48 ≤ c.toNat ∧ c.toNat ≤ 57 := by simpa [Pl.digit] using hd.1
    have e := ih (a * 10 + (c.toNat - 48)) hd.2
    simp only [Lib.decFrom, Lib.digitVal, if_pos hc]
    exact e
set_option maxRecDepth 20000 in
theorem num_lt : ∀ (l : List UInt8) (a k : Nat), l.all Pl.digit = true → a < 10 ^ k → numF a l < 10 ^ (l.length + k) := by
  intro l
  induction l with
  | nil =>
    intro a k _ ha
    have e : ([] : List UInt8).length + k = k := Nat.zero_add k
    rw [e]
    exact ha
  | cons c r ih =>
    intro a k hd ha
    simp only [List.all_cons, Bool.and_eq_true] at hd
    have hc : 48 ≤ c.toNat ∧ c.toNat ≤ 57 := by simpa [Pl.digit] using hd.1
    have hp1 : (10 : Nat) ^ (k + 1) = 10 ^ k * 10 := Nat.pow_succ 10 k
    have e := ih (a * 10 + (c.toNat - 48)) (k + 1) hd.2 (by omega)
    rw [show r.length + (k + 1) = (c :: r).length + k by simp; omega] at e
    exact e
set_option maxRecDepth 20000 in
theorem digit_parse (l : List UInt8) (hd : l.all Pl.digit = true) (h0 : l ≠ []) (hl : l.length ≤ 8) : Lib.parseIntB 64 l = .ok (numF 0 l : Int) ∧ numF 0 l < 10 ^ l.length := by
  have hlt : numF 0 l < 10 ^ l.length := by simpa using num_lt l 0 0 hd (by decide)
  have hp : (10 : Nat) ^ l.length ≤ 10 ^ 8 := Nat.pow_le_pow_right (by omega) hl
  have h8 : (10 : Nat) ^ 8 = 100000000 := by decide
  refine And.intro ?_ hlt
  have hm := Lib.parseMag_short l (by omega)
  have hn := num_dec l 0 hd
  cases l with
  | nil => exact absurd rfl h0
  | cons c r =>
    have hc : 48 ≤ c.toNat ∧ c.toNat ≤ 57 := by
      simp only [List.all_cons, Bool.and_eq_true] at hd
      simpa [Pl.digit] using hd.1
    rw [Lib.parseIntB_plain 64 c r (by omega) (by omega), Lib.parseUintB_64, hm]
    generalize numF 0 (c :: r) = v at *
    have hn' : Lib.decNat (c :: r) = some v := hn
    rw [hn']
    show Lib.signlessC (2 ^ (64 - 1)) (.ok v) = _
    unfold Lib.signlessC
    dsimp only
    rw [if_neg (by omega)]
set_option maxRecDepth 20000 in
theorem below_of_bytes {w w' : World} (h : w' = w ∨ ∃ t, w' = Lib.bytesWorld w 5 t) : Below w.heap.size w w' := by
  rcases h with rfl | ⟨t, rfl⟩
  · exact Below.refl _ _
  · exact bytesWorld_below _ _ _
set_option maxRecDepth 20000 in
theorem implNumberOf (s : ByteArray) (w : World) (hd : s.data.toList.all Pl.digit = true) (h0 : s.data.toList ≠ []) (hl : s.size ≤ 8) :
    Calls Tryz.prog 26 #[.string s] w fun e w' => e = .returned (.int .i64 (numF 0 s.data.toList : Int)) ∧ Below w.heap.size w w' := by
  have hP := Tryz.strconv_ParseInt_10_at64_ok s (by omega) _ (digit_parse s.data.toList hd h0 (by simpa using hl)).1 w
  generalize (numF 0 s.data.toList : Int) = v at *
  go_enter Tryz.func26, Tryz.ntmps26
  go_wp2_with fail
  refine hP.mono ?_
  rintro e w1 ⟨rfl, hw⟩
  have hb := below_of_bytes hw
  clear hP hw
  go_wp2_with fail
  go_ret
  exact ⟨rfl, hb⟩
set_option maxRecDepth 20000 in
set_option maxHeartbeats 1000000 in
theorem rdDigits (B g n : Nat) (T : List Tk) (s : ByteArray) (q : Nat × Nat) (ill : Bool) (t : Tk) (lo hi : Nat) (w : World) (h : Rd B T g s q n ill w) (hl : T.length ≤ 100) (hs : s.size ≤ 4000) (hk : ∀ t ∈ T, t.kind ≠ 4) (hn : T[n]? = some t) (h1 : t.kind = 1)
    (hlo : lo ≤ t.text.size) (hhi : t.text.size ≤ hi) (hh : hi ≤ 8) (hd : t.text.data.toList.all Pl.digit = true) :
    Calls Tryz.prog 27 #[scp g, .int .i64 lo, .int .i64 hi] w fun e w' => e = .returned (.string t.text) ∧ Rd B T g s q (n + 1) ill w' ∧ w.grownBy w' (some g) := by
  have hP := rdAtom B g n T s q ill t w h hl hs hk hn h1
  have HA := (show Hid _ from fun (w : World) => implAllOf kindDigit t.text w (by omega))
  rw [hd] at HA
  have HW := (show Hid _ from fun (w : World) => rdWant g w)
  have f1 : (lo : Int) ≤ (t.text.size : Int) := by omega
  have f2 : (t.text.size : Int) ≤ (hi : Int) := by omega
  clear h hn
  generalize t.text = x at *
  go_enter Tryz.func27, Tryz.ntmps27
  go_wp2_with fail
  refine hP.mono ?_
  rintro e w1 ⟨rfl, h2, g2⟩
  clear hP
  have H2 := (show Hid _ from h2)
  have G2 := (show Hid _ from g2)
  clear h2 g2
  go_wp2_with fail
  refine (HA.out _).mono ?_
  rintro e w3 ⟨rfl, rfl⟩
  go_wp2_with fail
  refine (HW.out _).mono ?_
  rintro e w3 ⟨rfl, rfl⟩
  clear HW HA
  go_wp2_with fail
  go_ret
  exact ⟨rfl, H2.out, G2.out⟩
set_option maxRecDepth 20000 in
set_option maxHeartbeats 1000000 in
theorem rdBelow (B g n : Nat) (T : List Tk) (s : ByteArray) (q : Nat × Nat) (ill : Bool) (t : Tk) (m : Nat) (w : World) (h : Rd B T g s q n ill w) (hl : T.length ≤ 100) (hs : s.size ≤ 4000) (hk : ∀ t ∈ T, t.kind ≠ 4) (hn : T[n]? = some t) (h1 : t.kind = 1)
    (h2 : t.text.size = 2) (hd : t.text.data.toList.all Pl.digit = true) (hm : numF 0 t.text.data.toList < m) :
    Calls Tryz.prog 68 #[scp g, .int .i64 m] w fun e w' => e = .returned (.int .i64 (numF 0 t.text.data.toList : Int)) ∧ Rd B T g s q (n + 1) ill w' ∧ w.grownBy w' (some g) := by
  have hP := rdDigits B g n T s q ill t 2 2 w h hl hs hk hn h1 (by omega) (by omega) (by omega) hd
  have HN := (show Hid _ from fun (w : World) => implNumberOf t.text w hd (by intro e; have h := congrArg List.length e; rw [Array.length_toList] at h; have h' : t.text.size = 0 := h; omega) (by omega))
  have HW := (show Hid _ from fun (w : World) => rdWant g w)
  have f1 : (numF 0 t.text.data.toList : Int) < (m : Int) := by omega
  clear h hn hm hd h2
  generalize t.text = x at *
  generalize (numF 0 x.data.toList : Int) = v at *
  go_enter Tryz.func68, Tryz.ntmps68
  go_wp2_with fail
  refine hP.mono ?_
  rintro e w1 ⟨rfl, h2, g2⟩
  clear hP
  go_wp2_with fail
  refine (HN.out _).mono ?_
  rintro e w3 ⟨rfl, hb⟩
  have H2 := (show Hid _ from h2.below hb)
  have G2 := (show Hid _ from grown_trans g2 (grown_below hb))
  clear h2 g2 hb
  go_wp2_with fail
  refine (HW.out _).mono ?_
  rintro e w4 ⟨rfl, rfl⟩
  clear HW HN
  go_wp2_with fail
  go_ret
  exact ⟨rfl, H2.out, G2.out⟩
set_option maxRecDepth 20000 in
set_option maxHeartbeats 1000000 in
theorem rdYear (B g n : Nat) (T : List Tk) (s : ByteArray) (q : Nat × Nat) (ill : Bool) (t : Tk) (w : World) (h : Rd B T g s q n ill w) (hl : T.length ≤ 100) (hs : s.size ≤ 4000) (hk : ∀ t ∈ T, t.kind ≠ 4) (hn : T[n]? = some t) (h1 : t.kind = 1)
    (h4 : t.text.size = 4) (hd : t.text.data.toList.all Pl.digit = true) :
    Calls Tryz.prog 29 #[scp g] w fun e w' => e = .returned (.int .i64 (numF 0 t.text.data.toList : Int)) ∧ Rd B T g s q (n + 1) ill w' ∧ w.grownBy w' (some g) := by
  have hP := rdDigits B g n T s q ill t 2 4 w h hl hs hk hn h1 (by omega) (by omega) (by omega) hd
  have HN := (show Hid _ from fun (w : World) => implNumberOf t.text w hd (by intro e; have h := congrArg List.length e; rw [Array.length_toList] at h; have h' : t.text.size = 0 := h; omega) (by omega))
  have f1 : ((t.text.size : Int) == 2) = false := by simp; omega
  have f2 : ¬ (t.text.size : Int) < 4 := by omega
  clear h hn hd h4
  generalize t.text = x at *
  generalize (numF 0 x.data.toList : Int) = v at *
  go_enter Tryz.func29, Tryz.ntmps29
  go_wp2_with fail
  refine hP.mono ?_
  rintro e w1 ⟨rfl, h2, g2⟩
  clear hP
  go_wp2_with fail
  refine (HN.out _).mono ?_
  rintro e w3 ⟨rfl, hb⟩
  have H2 := (show Hid _ from h2.below hb)
  have G2 := (show Hid _ from grown_trans g2 (grown_below hb))
  clear h2 g2 hb HN
  go_wp2_with fail
  go_ret
  exact ⟨rfl, H2.out, G2.out⟩
end Go.Proofs.YtacmhofekdjobaaGreatDoor
