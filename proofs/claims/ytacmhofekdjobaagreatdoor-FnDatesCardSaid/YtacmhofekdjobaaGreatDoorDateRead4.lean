
/- The walks of a reader of dates: a clock, a zone. -/
import Derived.Test.YtacmhofekdjobaaGreatDoorDateRead3
namespace Go.Proofs.YtacmhofekdjobaaGreatDoor
open Go.RowKit Go.Lib
/-- A token that is an atom of so many digits, which spell a number. -/
structure Dg (t : Tk) (k v : Nat) : Prop where
  kind : t.kind = 1
  size : t.text.size = k
  all : t.text.data.toList.all Pl.digit = true
  num : numF 0 t.text.data.toList = v
set_option maxRecDepth 20000 in
set_option maxHeartbeats 2000000 in
theorem rdClock (B g n : Nat) (T : List Tk) (s : ByteArray) (q : Nat × Nat) (ill : Bool) (ta tb tc td te : Tk) (hh mm ss : Nat) (w : World) (h : Rd B T g s q n ill w) (hl : T.length ≤ 100) (hs : s.size ≤ 4000) (hk : ∀ t ∈ T, t.kind ≠ 4)
    (ha : T[n]? = some ta) (hb : T[n + 1]? = some tb) (hc : T[n + 1 + 1]? = some tc) (hd : T[n + 1 + 1 + 1]? = some td) (he : T[n + 1 + 1 + 1 + 1]? = some te)
    (da : Dg ta 2 hh) (db : tb.kind = 5 ∧ tb.text = ⟨#[58]⟩) (dc : Dg tc 2 mm) (dd : td.kind = 5 ∧ td.text = ⟨#[58]⟩) (de : Dg te 2 ss) (h1 : hh < 24) (h2 : mm < 60) (h3 : ss < 60) :
    Calls Tryz.prog 30 #[scp g] w fun e w' => e = .returned (.int .i64 ((hh : Int) * 3600 + (mm : Int) * 60 + (ss : Int))) ∧ Rd B T g s q (n + 1 + 1 + 1 + 1 + 1) ill w' ∧ w.grownBy w' (some g) := by
  have hA := rdBelow B g n T s q ill ta 24 w h hl hs hk ha da.kind da.size da.all (by rw [da.num]; omega)
  have HB := (show Hid _ from fun (w : World) h => rdTakeSign B g (n + 1) T s q ill tb ⟨#[58]⟩ w h hl hs hk hb db.1 db.2)
  have HC := (show Hid _ from fun (w : World) h => rdBelow B g (n + 1 + 1) T s q ill tc 60 w h hl hs hk hc dc.kind dc.size dc.all (by rw [dc.num]; omega))
  have HD := (show Hid _ from fun (w : World) h => rdTakeSign B g (n + 1 + 1 + 1) T s q ill td ⟨#[58]⟩ w h hl hs hk hd dd.1 dd.2)
  have HE := (show Hid _ from fun (w : World) h => rdBelow B g (n + 1 + 1 + 1 + 1) T s q ill te 61 w h hl hs hk he de.kind de.size de.all (by rw [de.num]; omega))
  rw [da.num] at hA
  rw [dc.num] at HC
  rw [de.num] at HE
  have HW := (show Hid _ from fun (w : World) => rdWant g w)
  have f1 : (hh : Int) < 24 := by omega
  have f2 : (mm : Int) < 60 := by omega
  have f3 : (ss : Int) < 60 := by omega
  have f4 : min (ss : Int) 59 = (ss : Int) := by omega
  have f5 : (0 : Int) ≤ (hh : Int) := by omega
  have f6 : (0 : Int) ≤ (mm : Int) := by omega
  have f7 : (0 : Int) ≤ (ss : Int) := by omega
  clear h ha hb hc hd he da db dc dd de h1 h2 h3
  go_enter Tryz.func30, Tryz.ntmps30
  go_wp2_with fail
  refine hA.mono ?_
  rintro e w1 ⟨rfl, r1, g1⟩
  clear hA
  have R1 := (show Hid _ from r1)
  have G1 := (show Hid _ from g1)
  clear r1 g1
  go_wp2_with fail
  refine (HB.out _ R1.out).mono ?_
  rintro e w2 ⟨rfl, r2, g2⟩
  have R2 := (show Hid _ from r2)
  have G2 := (show Hid _ from grown_trans G1.out g2)
  clear HB R1 G1 r2 g2
  go_wp2_with fail
  refine (HW.out _).mono ?_
  rintro e w2 ⟨rfl, rfl⟩
  go_wp2_with fail
  refine (HC.out _ R2.out).mono ?_
  rintro e w3 ⟨rfl, r3, g3⟩
  have R3 := (show Hid _ from r3)
  have G3 := (show Hid _ from grown_trans G2.out g3)
  clear HC R2 G2 r3 g3 HW
  go_wp2_with fail
  refine (HD.out _ R3.out).mono ?_
  rintro e w4 ⟨rfl, r4, g4⟩
  have R4 := (show Hid _ from r4)
  have G4 := (show Hid _ from grown_trans G3.out g4)
  clear HD R3 G3 r4 g4
  go_wp2_with fail
  refine (HE.out _ R4.out).mono ?_
  rintro e w5 ⟨rfl, r5, g5⟩
  have R5 := (show Hid _ from r5)
  have G5 := (show Hid _ from grown_trans G4.out g5)
  clear HE R4 G4 r5 g5
  go_wp2_with fail
  go_ret
  exact ⟨rfl, R5.out, G5.out⟩
set_option maxRecDepth 20000 in
set_option maxHeartbeats 2000000 in
theorem rdZone (B g n : Nat) (T : List Tk) (s : ByteArray) (q : Nat × Nat) (ill : Bool) (x : ByteArray) (a : Nat) (N : Nat) (neg : Bool) (w : World) (h : Rd B T g s q n ill w) (hl : T.length ≤ 100) (hs : s.size ≤ 4000) (hk : ∀ t ∈ T, t.kind ≠ 4) (hn : T[n]? = some ⟨1, x, a⟩)
    (hpos : 0 < x.size) (h5 : x.size = 5) (h0 : x[0]'hpos = if neg then 45 else 43) (hd : (x.extract 1 x.size).data.toList.all Pl.digit = true) (hN : numF 0 (x.extract 1 x.size).data.toList = N) (h24 : N / 100 < 24) (h60 : N % 100 < 60) :
    Calls Tryz.prog 31 #[scp g] w fun e w' => e = .returned (.int .i64 (if neg then -((N : Int) / 100) * 60 - (N : Int) % 100 else (N : Int) / 100 * 60 + (N : Int) % 100)) ∧ Rd B T g s q (n + 1) ill w' ∧ w.grownBy w' (some g) := by
  have hA := rdAtom B g n T s q ill ⟨1, x, a⟩ w h hl hs hk hn rfl
  have hx : (x.extract 1 x.size).size = 4 := by rw [ByteArray.size_extract]; omega
  have HN := (show Hid _ from fun (w : World) => implNumberOf (x.extract 1 x.size) w hd (by intro e; have h := congrArg List.length e; rw [Array.length_toList] at h; have h' : (x.extract 1 x.size).size = 0 := h; omega) (by omega))
  rw [hN] at HN
  have HL := (show Hid _ from fun (w : World) => implAllOf kindLetter x w (by omega))
  have hlet : x.data.toList.all Pl.letter = false := by
    have hm : x[0]'hpos ∈ x.data.toList := by
      have h5' : x.data.size = 5 := h5
      show x.data[0]'(by omega) ∈ _
      exact Array.mem_toList_iff.2 (Array.getElem_mem _)
    cases hc : x.data.toList.all Pl.letter with
    | false => rfl
    | true =>
      have := List.all_eq_true.1 hc _ hm
      rw [h0] at this
      revert this
      cases neg <;> decide
  rw [hlet] at HL
  have HD := (show Hid _ from fun (w : World) => implAllOf kindDigit (x.extract 1 x.size) w (by omega))
  rw [hd] at HD
  have HW := (show Hid _ from fun (w : World) => rdWant g w)
  have hq : ((N : Int)).tdiv 100 = (N : Int) / 100 := Int.tdiv_eq_ediv_of_nonneg (by omega)
  have hr : ((N : Int)).tmod 100 = (N : Int) % 100 := Int.tmod_eq_emod_of_nonneg (by omega)
  obtain ⟨Q, hQ⟩ : ∃ Q : Int, Q = (N : Int) / 100 := ⟨_, rfl⟩
  obtain ⟨M, hM⟩ : ∃ M : Int, M = (N : Int) % 100 := ⟨_, rfl⟩
  have f1 : 0 ≤ Q := by omega
  have f2 : Q < 24 := by omega
  have f3 : 0 ≤ M := by omega
  have f4 : M < 60 := by omega
  rw [← hQ, ← hM]
  rw [← hQ] at hq
  rw [← hM] at hr
  clear h hn hN hlet hd hx hQ hM h24 h60
  have hs5 : ((x.size : Int) == 5) = true := by simp; omega
  have hgt : (1 : Int) ≤ (x.size : Int) := by omega
  have hg0 : (0 : Int) < (x.size : Int) := by omega
  clear h5
  cases neg with
  | false =>
    have e0 : (((x[0]'hpos).toNat : Int) == 43) = true := by rw [h0]; rfl
    have e1 : (((x[0]'hpos).toNat : Int) == 45) = false := by rw [h0]; rfl
    clear h0
    go_enter Tryz.func31, Tryz.ntmps31
    go_wp2_with fail
    refine hA.mono ?_
    rintro e w1 ⟨rfl, r1, g1⟩
    have R1 := (show Hid _ from r1)
    have G1 := (show Hid _ from g1)
    clear r1 g1 hA
    go_wp2_with fail
    refine (HL.out _).mono ?_
    rintro e w2 ⟨rfl, rfl⟩
    go_wp2_with fail
    refine (HW.out _).mono ?_
    rintro e w2 ⟨rfl, rfl⟩
    go_wp2_with fail
    refine (HD.out _).mono ?_
    rintro e w2 ⟨rfl, rfl⟩
    go_wp2_with fail
    refine (HW.out _).mono ?_
    rintro e w2 ⟨rfl, rfl⟩
    go_wp2_with fail
    refine (HN.out _).mono ?_
    rintro e w3 ⟨rfl, hb⟩
    have R3 := (show Hid _ from R1.out.below hb)
    have G3 := (show Hid _ from grown_trans G1.out (grown_below hb))
    clear R1 G1 hb HN HD HL
    go_wp2_with fail
    refine (HW.out _).mono ?_
    rintro e w4 ⟨rfl, rfl⟩
    go_wp2_with fail
    go_ret
    exact ⟨rfl, R3.out, G3.out⟩
  | true =>
    have e0 : (((x[0]'hpos).toNat : Int) == 43) = false := by rw [h0]; rfl
    have e1 : (((x[0]'hpos).toNat : Int) == 45) = true := by rw [h0]; rfl
    clear h0
    go_enter Tryz.func31, Tryz.ntmps31
    go_wp2_with fail
    refine hA.mono ?_
    rintro e w1 ⟨rfl, r1, g1⟩
    have R1 := (show Hid _ from r1)
    have G1 := (show Hid _ from g1)
    clear r1 g1 hA
    go_wp2_with fail
    refine (HL.out _).mono ?_
    rintro e w2 ⟨rfl, rfl⟩
    go_wp2_with fail
    refine (HW.out _).mono ?_
    rintro e w2 ⟨rfl, rfl⟩
    go_wp2_with fail
    refine (HD.out _).mono ?_
    rintro e w2 ⟨rfl, rfl⟩
    go_wp2_with fail
    refine (HW.out _).mono ?_
    rintro e w2 ⟨rfl, rfl⟩
    go_wp2_with fail
    refine (HN.out _).mono ?_
    rintro e w3 ⟨rfl, hb⟩
    have R3 := (show Hid _ from R1.out.below hb)
    have G3 := (show Hid _ from grown_trans G1.out (grown_below hb))
    clear R1 G1 hb HN HD HL
    go_wp2_with fail
    refine (HW.out _).mono ?_
    rintro e w4 ⟨rfl, rfl⟩
    go_wp2_with fail
    go_ret
    exact ⟨rfl, R3.out, G3.out⟩
end Go.Proofs.YtacmhofekdjobaaGreatDoor
