
/- A written date's numbers, back. -/
import Derived.Test.YtacmhofekdjobaaGreatDoorDateToks
namespace Go.Proofs.YtacmhofekdjobaaGreatDoor
open Go.RowKit Go.Lib
namespace Pl
set_option maxRecDepth 20000 in
theorem two_facts : ∀ n : Fin 100, (twoN n.val).all digit = true ∧ (twoN n.val).all atom = true ∧ numF 0 (twoN n.val) = n.val := by decide +kernel
set_option maxRecDepth 20000 in
theorem two_fact (n : Nat) (h : n < 100) : (twoN n).all digit = true ∧ (twoN n).all atom = true ∧ numF 0 (twoN n) = n := two_facts ⟨n, h⟩
set_option maxRecDepth 20000 in
theorem num_app : ∀ (x y : List UInt8) (a : Nat), numF a (x ++ y) = numF (numF a x) y
  | [], _, _ => rfl
  | c :: r, y, a => by
    show numF (a * 10 + (c.toNat - 48)) (r ++ y) = numF (numF (a * 10 + (c.toNat - 48)) r) y
    exact num_app r y _
set_option maxRecDepth 20000 in
theorem num_cons (a : Nat) (c : UInt8) (r : List UInt8) : numF a (c :: r) = numF (a * 10 + (c.toNat - 48)) r := by
  conv => lhs; unfold numF
set_option maxRecDepth 20000 in
theorem num_nil (a : Nat) : numF a [] = a := by
  unfold numF
  rfl
set_option maxRecDepth 20000 in
theorem num_pair (a : Nat) (c d : UInt8) : numF a [c, d] = (a * 10 + (c.toNat - 48)) * 10 + (d.toNat - 48) := (num_cons a c [d]).trans ((num_cons _ d []).trans (num_nil _))
set_option maxRecDepth 20000 in
theorem dig_back (k : Nat) (h : k < 10) : (UInt8.ofNat (48 + k)).toNat - 48 = k := by
  have : (UInt8.ofNat (48 + k)).toNat = 48 + k := UInt8.toNat_ofNat_of_lt' (by simp [UInt8.size]; omega)
  omega
set_option maxRecDepth 20000 in
theorem num_two (a n : Nat) (h : n < 100) : numF a (twoN n) = a * 100 + n := by
  have e1 := dig_back (n / 10) (by omega)
  have e2 := dig_back (n % 10) (by omega)
  unfold twoN
  rw [num_pair, e1, e2]
  omega
set_option maxRecDepth 20000 in
theorem num_four (a b : Nat) (ha : a < 100) (hb : b < 100) : numF 0 (twoN a ++ twoN b) = a * 100 + b := by
  rw [num_app, (two_fact a ha).2.2, num_two a b hb]
set_option maxRecDepth 20000 in
theorem dsum_next (y m : Int) (h : 1 ≤ m) : dsum y (m + 1 - 1).toNat = dsum y (m - 1).toNat + dm y m := by
  obtain ⟨k, rfl⟩ : ∃ k : Nat, m = (k : Int) + 1 := ⟨(m - 1).toNat, by omega⟩
  rw [show ((k : Int) + 1 + 1 - 1).toNat = k + 1 by omega, show ((k : Int) + 1 - 1).toNat = k by omega]
  rfl
set_option maxRecDepth 20000 in
theorem moF_sum (y : Int) : ∀ (k : Nat) (r m : Int), 1 ≤ m → (moF y k r m).2 + dsum y ((moF y k r m).1 - 1).toNat = r + dsum y (m - 1).toNat
  | 0, _, _, _ => rfl
  | k + 1, r, m, h => by
    rw [moF]
    split
    · rw [moF_sum y k (r - dm y m) (m + 1) (by omega), dsum_next y m h]
      omega
    · rfl
set_option maxRecDepth 20000 in
theorem day_back (d : Int) : beg (yr d) + dsum (yr d) ((mo d).1 - 1).toNat + (mo d).2 = d := by
  have h := moF_sum (yr d) 12 (d - beg (yr d)) 1 (by omega)
  rw [show ((1 : Int) - 1).toNat = 0 from rfl] at h
  have e : dsum (yr d) 0 = 0 := rfl
  rw [e] at h
  unfold mo
  omega
set_option maxRecDepth 20000 in
theorem day_in (d : Int) (h0 : 0 ≤ d) (h1 : d ≤ 2932896) : (mo d).2 < dm (yr d) (mo d).1 := by
  obtain ⟨y, hy, hb⟩ := year_end d h1 _ _ (Nat.le_refl _) (YearAt.start d h0)
  obtain ⟨r, m, hm, hr⟩ := month_end d _ _ _ (Nat.le_refl _) (MonthAt.start hy hb)
  rw [hm.done hr]
  show r < dm (yr d) m
  omega
set_option maxRecDepth 20000 in
theorem month_facts : ∀ j : Fin 12, (monthN j.val).data.toList.all atom = true ∧ (monthN j.val).data.toList.length = 3 := by decide +kernel
set_option maxRecDepth 20000 in
theorem day_facts : ∀ j : Fin 7, (dayN j.val).data.toList.all atom = true ∧ (dayN j.val).data.toList.length = 3 := by decide +kernel
set_option maxRecDepth 20000 in
theorem two_noday : ∀ n : Fin 100, ∀ i : Fin 7, (lower (twoN n.val) == lower (dayN i.val).data.toList) = false := by decide +kernel
end Pl
/-- The tokens of a date, as its numbers say: the day from 0 on, the month from 0 on. -/
def dateP (b : List UInt8) (dd mo yy hh mm ss : Nat) (neg : Bool) (zh zm : Nat) : List Pc :=
  [⟨b, 1, Pl.twoN dd⟩, ⟨[32], 1, (Pl.monthN mo).data.toList⟩, ⟨[32], 1, Pl.twoN (yy / 100) ++ Pl.twoN (yy % 100)⟩, ⟨[32], 1, Pl.twoN hh⟩, ⟨[], 5, [58]⟩, ⟨[], 1, Pl.twoN mm⟩, ⟨[], 5, [58]⟩, ⟨[], 1, Pl.twoN ss⟩,
    ⟨[32], 1, (if neg then 45 else 43) :: (Pl.twoN zh ++ Pl.twoN zm)⟩]
set_option maxRecDepth 20000 in
theorem atom_sign (neg : Bool) : Pl.atom (if neg then 45 else 43) = true := by cases neg <;> decide +kernel
set_option maxRecDepth 20000 in
theorem atom_colon : Pl.atom 58 = false := by decide +kernel
set_option maxRecDepth 20000 in
theorem atom_comma : Pl.atom 44 = false := by decide +kernel
set_option maxRecDepth 20000 in
theorem dateP_ok (b : List UInt8) (dd mo yy hh mm ss : Nat) (neg : Bool) (zh zm : Nat) (hb : b.all Pl.blank = true) (h1 : dd < 100) (h2 : mo < 12) (h3 : yy < 10000) (h4 : hh < 100) (h5 : mm < 100) (h6 : ss < 100) (h7 : zh < 100) (h8 : zm < 100) :
    okP (dateP b dd mo yy hh mm ss neg zh zm) = true := by
  have a1 := (Pl.two_fact dd h1).2.1
  have a2 := Pl.month_facts ⟨mo, h2⟩
  have a3 := (Pl.two_fact (yy / 100) (by omega)).2.1
  have a4 := (Pl.two_fact (yy % 100) (by omega)).2.1
  have a5 := (Pl.two_fact hh h4).2.1
  have a6 := (Pl.two_fact mm h5).2.1
  have a7 := (Pl.two_fact ss h6).2.1
  have a8 := (Pl.two_fact zh h7).2.1
  have a9 := (Pl.two_fact zm h8).2.1
  have l2 : ∀ n, (Pl.twoN n).length = 2 := fun n => rfl
  simp only [dateP, okP, pcOk, flatP, List.cons_append, List.nil_append, headOk, Pl.atom_blank, atom_colon, hb, a1, a2.1, a2.2, a3, a4, a5, a6, a7, a8, a9, l2, List.all_append, List.all_cons, List.all_nil, atom_sign, List.length_append, List.length_cons]
  simp [Pl.blank]
end Go.Proofs.YtacmhofekdjobaaGreatDoor
