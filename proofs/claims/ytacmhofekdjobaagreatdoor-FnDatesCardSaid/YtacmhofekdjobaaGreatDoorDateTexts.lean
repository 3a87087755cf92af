
/- The two texts of a date as pieces. -/
import Derived.Test.YtacmhofekdjobaaGreatDoorDateBack
namespace Go.Proofs.YtacmhofekdjobaaGreatDoor
open Go.RowKit Go.Lib
def cleanB (c : UInt8) : Bool := !(c == 13) && Pl.lb c
set_option maxRecDepth 20000 in
theorem atom_clean : ∀ n : Fin 256, Pl.atom (UInt8.ofNat n.val) = true → cleanB (UInt8.ofNat n.val) = true := by decide +kernel
set_option maxRecDepth 20000 in
theorem blank_clean : ∀ n : Fin 256, Pl.blank (UInt8.ofNat n.val) = true → cleanB (UInt8.ofNat n.val) = true := by decide +kernel
set_option maxRecDepth 20000 in
theorem of256 {K L : UInt8 → Bool} (h : ∀ n : Fin 256, K (UInt8.ofNat n.val) = true → L (UInt8.ofNat n.val) = true) (c : UInt8) (hc : K c = true) : L c = true := by
  have := h ⟨c.toNat, UInt8.toNat_lt c⟩
  simp only [UInt8.ofNat_toNat] at this
  exact this hc
set_option maxRecDepth 20000 in
theorem pieces_clean : ∀ P : List Pc, okP P = true → (flatP P).all cleanB = true
  | [], _ => rfl
  | p :: r, h => by
    rw [okP, Bool.and_eq_true, pcOk, Bool.and_eq_true, Bool.or_eq_true] at h
    obtain ⟨⟨h1, h2⟩, h3⟩ := h
    rw [flatP, List.all_append, List.all_append, pieces_clean r h3, Bool.and_true, Bool.and_eq_true]
    refine ⟨List.all_eq_true.2 fun c hc => of256 blank_clean c (List.all_eq_true.1 h1 c hc), ?_⟩
    rcases h2 with h2 | h2
    · simp only [Bool.and_eq_true] at h2
      exact List.all_eq_true.2 fun c hc => of256 atom_clean c (List.all_eq_true.1 h2.2.2.1 c hc)
    · simp only [Bool.and_eq_true, Bool.or_eq_true, beq_iff_eq] at h2
      rcases h2.2 with e | e <;> rw [e] <;> decide
set_option maxRecDepth 20000 in
theorem clean_pieces (s : ByteArray) (P : List Pc) (hs : s.data.toList = flatP P) (h : okP P = true) : Clean s := by
  intro i hi
  have hl : i < s.data.toList.length := by simpa using hi
  have hm : s.data.toList[i] ∈ s.data.toList := List.getElem_mem hl
  have := List.all_eq_true.1 (pieces_clean P h) s.data.toList[i] (by rw [← hs]; exact hm)
  have e : s.data.toList[i] = s[i] := rfl
  rw [e, cleanB, Bool.and_eq_true, Bool.not_eq_true'] at this
  exact this
/-- What a date's numbers are. -/
structure Dn where
  dd : Nat
  mo : Nat
  yy : Nat
  hh : Nat
  mm : Nat
  ss : Nat
  neg : Bool
  zh : Nat
  zm : Nat
def dnOf (t z : Int) : Dn := ⟨((Pl.mo (t / 86400)).2 + 1).toNat, ((Pl.mo (t / 86400)).1 - 1).toNat, (Pl.yr (t / 86400)).toNat, (t % 86400 / 3600).toNat, (t % 3600 / 60).toNat, (t % 60).toNat, decide (z < 0), (absI z / 60).toNat, (absI z % 60).toNat⟩
def Dn.P (b : List UInt8) (n : Dn) : List Pc := dateP b n.dd n.mo n.yy n.hh n.mm n.ss n.neg n.zh n.zm
structure DnOk (t z : Int) (n : Dn) : Prop where
  d1 : 1 ≤ n.dd
  d2 : (n.dd : Int) ≤ Pl.dm n.yy (n.mo + 1)
  d3 : n.dd < 100
  mo : n.mo < 12
  y1 : 1970 ≤ n.yy
  y2 : n.yy ≤ 9999
  hh : n.hh < 24
  mm : n.mm < 60
  ss : n.ss < 60
  zh : n.zh < 24
  zm : n.zm < 60
  day : Pl.beg n.yy + dsum n.yy n.mo + ((n.dd : Int) - 1) = t / 86400
  clock : (n.hh : Int) * 3600 + (n.mm : Int) * 60 + (n.ss : Int) = t % 86400
  zone : (if n.neg then -(((n.zh * 100 + n.zm : Nat) : Int) / 100) * 60 - ((n.zh * 100 + n.zm : Nat) : Int) % 100 else ((n.zh * 100 + n.zm : Nat) : Int) / 100 * 60 + ((n.zh * 100 + n.zm : Nat) : Int) % 100) = z
set_option maxRecDepth 20000 in
theorem dn_ok (t z : Int) (h0 : 0 ≤ t) (h1 : t ≤ 253402300799) (hz0 : -1439 ≤ z) (hz1 : z ≤ 1439) : DnOk t z (dnOf t z) := by
  have hd0 : 0 ≤ t / 86400 := by omega
  have hd1 : t / 86400 ≤ 2932896 := by omega
  obtain ⟨b1, b2, b3, b4, b5, b6⟩ := Pl.bounds (t / 86400) hd0 hd1
  have hin := Pl.day_in (t / 86400) hd0 hd1
  have hbk := Pl.day_back (t / 86400)
  have ea : absI z = if z < 0 then -z else z := rfl
  have ha : 0 ≤ absI z ∧ absI z ≤ 1439 := by rw [ea]; split <;> omega
  have ey : ((Pl.yr (t / 86400)).toNat : Int) = Pl.yr (t / 86400) := Int.toNat_of_nonneg (by omega)
  have em : (((Pl.mo (t / 86400)).1 - 1).toNat : Int) = (Pl.mo (t / 86400)).1 - 1 := Int.toNat_of_nonneg (by omega)
  have ed : (((Pl.mo (t / 86400)).2 + 1).toNat : Int) = (Pl.mo (t / 86400)).2 + 1 := Int.toNat_of_nonneg (by omega)
  refine ⟨?_, ?_, ?_, ?_, ?_, ?_, ?_, ?_, ?_, ?_, ?_, ?_, ?_, ?_⟩
  · show 1 ≤ ((Pl.mo (t / 86400)).2 + 1).toNat
    omega
  · show (((Pl.mo (t / 86400)).2 + 1).toNat : Int) ≤ Pl.dm ((Pl.yr (t / 86400)).toNat : Int) ((((Pl.mo (t / 86400)).1 - 1).toNat : Int) + 1)
    rw [ed, ey, em, show (Pl.mo (t / 86400)).1 - 1 + 1 = (Pl.mo (t / 86400)).1 by omega]
    omega
  · show ((Pl.mo (t / 86400)).2 + 1).toNat < 100
    omega
  · show ((Pl.mo (t / 86400)).1 - 1).toNat < 12
    omega
  · show 1970 ≤ (Pl.yr (t / 86400)).toNat
    omega
  · show (Pl.yr (t / 86400)).toNat ≤ 9999
    omega
  · show (t % 86400 / 3600).toNat < 24
    omega
  · show (t % 3600 / 60).toNat < 60
    omega
  · show (t % 60).toNat < 60
    omega
  · show (absI z / 60).toNat < 24
    omega
  · show (absI z % 60).toNat < 60
    omega
  · show Pl.beg ((Pl.yr (t / 86400)).toNat : Int) + dsum ((Pl.yr (t / 86400)).toNat : Int) ((Pl.mo (t / 86400)).1 - 1).toNat + ((((Pl.mo (t / 86400)).2 + 1).toNat : Int) - 1) = t / 86400
    rw [ey, ed]
    omega
  · show ((t % 86400 / 3600).toNat : Int) * 3600 + ((t % 3600 / 60).toNat : Int) * 60 + ((t % 60).toNat : Int) = t % 86400
    rw [Int.toNat_of_nonneg (by omega), Int.toNat_of_nonneg (by omega), Int.toNat_of_nonneg (by omega)]
    omega
  · show (if decide (z < 0) = true then -((((absI z / 60).toNat * 100 + (absI z % 60).toNat : Nat) : Int) / 100) * 60 - (((absI z / 60).toNat * 100 + (absI z % 60).toNat : Nat) : Int) % 100 else (((absI z / 60).toNat * 100 + (absI z % 60).toNat : Nat) : Int) / 100 * 60 + (((absI z / 60).toNat * 100 + (absI z % 60).toNat : Nat) : Int) % 100) = z
    by_cases hz : z < 0
    · rw [if_pos hz] at ea
      rw [if_pos (decide_eq_true hz)]
      omega
    · rw [if_neg hz] at ea
      rw [if_neg (by simpa using hz)]
      omega
set_option maxRecDepth 20000 in
theorem two_list (n : Int) : (Pl.two n).data.toList = Pl.twoN n.toNat := rfl
set_option maxRecDepth 20000 in
theorem app_list (a b : ByteArray) : (a ++ b).data.toList = a.data.toList ++ b.data.toList := by simp
set_option maxRecDepth 20000 in
theorem date_pieces (t z : Int) (h0 : 0 ≤ t) (h1 : t ≤ 253402300799) : (dateT t z ⟨#[32]⟩).data.toList = flatP ((dnOf t z).P []) := by
  obtain ⟨b1, b2, b3, b4, b5, b6⟩ := Pl.bounds (t / 86400) (by omega) (by omega)
  have e1 : (Pl.yr (t / 86400) / 100).toNat = (Pl.yr (t / 86400)).toNat / 100 := by omega
  have e2 : (Pl.yr (t / 86400) % 100).toNat = (Pl.yr (t / 86400)).toNat % 100 := by omega
  have es : (signT z).data.toList = [if decide (z < 0) = true then 45 else 43] := by
    unfold signT
    by_cases hz : z < 0
    · rw [if_pos hz, if_pos (decide_eq_true hz)]
    · rw [if_neg hz, if_neg (by simpa using hz)]
  simp only [dateT, clockT, zoneT, app_list, two_list, Dn.P, dnOf, dateP, flatP, es, e1, e2, List.append_assoc, List.cons_append, List.nil_append, List.append_nil]
  rfl
set_option maxRecDepth 20000 in
theorem full_pieces (x z : Int) (hok : okD x z = true) : (fullT x z).data.toList = flatP (⟨[], 1, (Pl.dayN ((3 + (x + 60 * z) / 86400) % 7).toNat).data.toList⟩ :: ⟨[], 5, [44]⟩ :: (dnOf (x + 60 * z) z).P [32]) := by
  obtain ⟨_, _, _, _, h0, h1⟩ := okD_yes hok
  have e := date_pieces (x + 60 * z) z h0 h1
  rw [fullT, if_pos hok, app_list, app_list, e]
  simp only [flatP, Dn.P, dateP, List.append_assoc, List.cons_append, List.nil_append]
set_option maxRecDepth 20000 in
theorem list3 (l : List UInt8) (h : l.length = 3) : ∃ a b c, l = [a, b, c] := by
  match l, h with
  | [a, b, c], _ => exact ⟨a, b, c, rfl⟩
set_option maxRecDepth 20000 in
theorem stamp_blanks (t z : Int) (h0 : 0 ≤ t) (h1 : t ≤ 253402300799) : (((dateT t z ⟨#[45]⟩).data.toList.set 2 32).set 6 32) = (dateT t z ⟨#[32]⟩).data.toList := by
  obtain ⟨b1, b2, b3, b4, b5, b6⟩ := Pl.bounds (t / 86400) (by omega) (by omega)
  obtain ⟨p, q, r, hm⟩ := list3 _ (Pl.month_facts ⟨((Pl.mo (t / 86400)).1 - 1).toNat, by omega⟩).2
  simp only at hm
  simp only [dateT, app_list, two_list, hm, Pl.twoN, List.append_assoc, List.cons_append, List.nil_append, List.set]
end Go.Proofs.YtacmhofekdjobaaGreatDoor
