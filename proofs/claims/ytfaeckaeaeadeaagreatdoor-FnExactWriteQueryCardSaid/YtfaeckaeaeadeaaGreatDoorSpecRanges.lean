
/- The specification's ranges: tested, written. -/
import Derived.Test.YtfaeckaeaeadeaaGreatDoorGenRange
import Derived.Test.YtfaeckaeaeadeaaGreatDoorDec
namespace Go.Proofs.YtfaeckaeaeadeaaGreatDoor
open Go.RowKit Go.Lib Go.Maps
namespace Rg
def rOk (r : GRange) : Bool := decide (1 ≤ r.fromF) && (decide (r.fromF ≤ r.toF) && decide (r.toF ≤ 4294967295))
def rsOk (F : List GRange) : Bool := decide (1 ≤ F.length) && (decide (F.length ≤ 100) && F.all rOk)
def num (z : Int) : List UInt8 := if z = 4294967295 then [42] else decDigits z.toNat
def one (r : GRange) : List UInt8 := num r.fromF ++ (if r.fromF < r.toF then 58 :: num r.toF else [])
def more : List GRange → List UInt8
  | [] => []
  | r :: t => 44 :: (one r ++ more t)
def wr : List GRange → List UInt8
  | [] => []
  | r :: t => one r ++ more t
set_option maxRecDepth 20000 in
theorem all_dropR {α : Type} (f : α → Bool) (l : List α) (k : Nat) (h : k < l.length) : (l.drop k).all f = (f l[k] && (l.drop (k + 1)).all f) := by
  rw [List.drop_eq_getElem_cons h, List.all_cons]
set_option maxRecDepth 20000 in
theorem more_step (l : List GRange) (k : Nat) (h : k < l.length) : more (l.drop k) = 44 :: (one l[k] ++ more (l.drop (k + 1))) := by
  rw [List.drop_eq_getElem_cons h, more]
set_option maxRecDepth 20000 in
theorem wr_step (l : List GRange) (h : 0 < l.length) : wr l = one l[0] ++ more (l.drop 1) := by
  cases l with
  | nil => cases h
  | cons r t => rfl
set_option maxRecDepth 20000 in
theorem dec_small (n : Nat) (h : n ≤ 9999999999) : (decDigits n).length ≤ 10 := by
  have step : ∀ (m k : Nat), m < 10 ^ (k + 1) → (decDigits m).length ≤ k + 1 := by
    intro m k
    induction k generalizing m with
    | zero =>
      intro hm
      rw [decDigits, dif_pos (by simpa using hm)]
      simp
    | succ k ih =>
      intro hm
      rw [decDigits]
      by_cases h10 : m < 10
      · rw [dif_pos h10]; simp
      · rw [dif_neg h10, List.length_append]
        have := ih (m / 10) (by rw [Nat.pow_succ] at hm; omega)
        simp only [List.length_cons, List.length_nil]
        omega
  exact step n 9 (by omega)
set_option maxRecDepth 20000 in
theorem num_small (z : Int) (h0 : 0 ≤ z) (h1 : z ≤ 4294967295) : (num z).length ≤ 10 := by
  unfold num
  split
  · simp
  · exact dec_small _ (by omega)
set_option maxRecDepth 20000 in
theorem one_small (r : GRange) (h : rOk r = true) : (one r).length ≤ 21 := by
  unfold rOk at h
  simp only [Bool.and_eq_true, decide_eq_true_eq] at h
  have a := num_small r.fromF (by omega) (by omega)
  have b := num_small r.toF (by omega) (by omega)
  unfold one
  rw [List.length_append]
  split
  · simp; omega
  · simp; omega
end Rg
def plWriteRanges (F : List GRange) : ByteArray := ⟨(if Rg.rsOk F then Rg.wr F else []).toArray⟩
set_option maxRecDepth 20000 in
set_option maxHeartbeats 4000000 in
theorem specRangesOk (o : Option Addr) (F : List GRange) (cap lo : Nat) (w : World) (hF : GRangesL lo w.heap.size w o F) (hl : F.length ≤ 1048576) :
    Calls Tryz.prog 46 #[.slice o F.length cap] w fun e w' => e = .returned (.bool (Rg.rsOk F)) ∧ Below w.heap.size w w' := by
  unfold Rg.rsOk
  by_cases h1 : 1 ≤ F.length
  · have x1 : decide ((F.length : Int) < 1) = false := decide_eq_false (by omega)
    by_cases h2 : F.length ≤ 100
    · have x2 : decide ((100 : Int) < (F.length : Int)) = false := decide_eq_false (by omega)
      rw [decide_eq_true h1, decide_eq_true h2, Bool.true_and, Bool.true_and]
      obtain ⟨A, hA⟩ : ∃ A, F.all Rg.rOk = A := ⟨_, rfl⟩
      rw [hA]
      have HA : Hid ((F.drop 0).all Rg.rOk = A) := hA
      have HF := mkHid hF
      clear hF hA
      go_enter Tryz.func46, Tryz.ntmps46
      go_wp2
      go_loopw [3] (fun iv wr => ∃ i : Nat, i ≤ F.length ∧ iv = .int .i64 i ∧ Hid ((F.drop i).all Rg.rOk = A) ∧ Hid (Below w.heap.size w wr)) (fun iv _ => F.length - (Lib.intOf iv).toNat)
      case atStart => exact ⟨0, Nat.zero_le _, rfl, HA, Below.refl _ _⟩
      case round =>
        clear HA
        obtain ⟨i, hi, rfl, hz, hB⟩ := hrel
        by_cases hlt : i < F.length
        · obtain ⟨a, rfl, ha1, ha2, hAt⟩ := ((HF.out.below hB.out (Nat.le_refl _)).mono (Nat.le_refl _) hB.out.size) i hlt
          have d0 := hAt.c0
          have d1 := hAt.c1
          have hst := Rg.all_dropR Rg.rOk F i hlt
          rw [hz.out] at hst
          unfold Rg.rOk at hst
          clear hAt hz
          generalize F[i] = r at *
          have hnx : ∃ X, (F.drop (i + 1)).all Rg.rOk = X := ⟨_, rfl⟩
          obtain ⟨X, hX⟩ := hnx
          have hX' : (F.drop (i + 1)).all (fun r => decide (1 ≤ r.fromF) && (decide (r.fromF ≤ r.toF) && decide (r.toF ≤ 4294967295))) = X := hX
          rw [hX'] at hst
          replace hX := mkHid hX
          clear hX'
          generalize r.fromF = p at *
          generalize r.toF = q at *
          have k0 := cell_regrown d0
          have k1 := cell_regrown d1
          have hib : (0 : Int) ≤ (i : Int) ∧ (i : Int) < (F.length : Int) := ⟨by omega, by omega⟩
          replace hst := mkHid hst
          clear d0 d1
          by_cases y0 : 1 ≤ p
          · have u0 : decide (p < 1) = false := decide_eq_false (by omega)
            by_cases y1 : p ≤ q
            · have u1 : decide (q < p) = false := decide_eq_false (by omega)
              by_cases y2 : q ≤ 4294967295
              · have u2 : decide (4294967295 < q) = false := decide_eq_false (by omega)
                have hr : Hid (X = A) := by rw [hst.out, decide_eq_true y0, decide_eq_true y1, decide_eq_true y2]; rfl
                clear hst
                go_wp2
                refine wp_region_quiet_below (by kernel_rfl) (by kernel_rfl) ?_
                repeat (go_big_quiet_step (fail))
                refine wpQuiet_nil ?_
                intro _ hw'
                obtain ⟨⟨dq, osq⟩, hw''⟩ := hw'
                subst hw''
                have hbQ := mkHid (hB.out.trans ((below_regrown wr dq osq).mono hB.out.size))
                generalize Go.Sort.grow (redrawn wr dq) osq = wq at *
                clear k0 k1
                go_wp2
                go_roundw
                case rel => exact ⟨i + 1, by omega, by go_num, by rw [hX.out]; exact hr, hbQ⟩
                case measure => simp [Lib.intOf]; omega
              · have u2 : decide (4294967295 < q) = true := decide_eq_true (by omega)
                have hr : Hid (A = false) := by show _ = _; rw [hst.out, decide_eq_false y2]; simp
                clear hst
                go_wp2
                refine wp_region_quiet_below (by kernel_rfl) (by kernel_rfl) ?_
                repeat (go_big_quiet_step (fail))
                refine wpQuiet_nil ?_
                intro _ hw'
                obtain ⟨⟨dq, osq⟩, hw''⟩ := hw'
                subst hw''
                have hbQ := mkHid (hB.out.trans ((below_regrown wr dq osq).mono hB.out.size))
                generalize Go.Sort.grow (redrawn wr dq) osq = wq at *
                clear k0 k1
                go_wp2
                go_ret
                rw [hr.out]
                exact ⟨rfl, hbQ.out⟩
            · have u1 : decide (q < p) = true := decide_eq_true (by omega)
              have hr : Hid (A = false) := by show _ = _; rw [hst.out, decide_eq_false y1]; simp
              clear hst
              go_wp2
              refine wp_region_quiet_below (by kernel_rfl) (by kernel_rfl) ?_
              repeat (go_big_quiet_step (fail))
              refine wpQuiet_nil ?_
              intro _ hw'
              obtain ⟨⟨dq, osq⟩, hw''⟩ := hw'
              subst hw''
              have hbQ := mkHid (hB.out.trans ((below_regrown wr dq osq).mono hB.out.size))
              generalize Go.Sort.grow (redrawn wr dq) osq = wq at *
              clear k0 k1
              go_wp2
              go_ret
              rw [hr.out]
              exact ⟨rfl, hbQ.out⟩
          · have u0 : decide (p < 1) = true := decide_eq_true (by omega)
            have hr : Hid (A = false) := by show _ = _; rw [hst.out, decide_eq_false y0]; simp
            clear hst
            go_wp2
            refine wp_region_quiet_below (by kernel_rfl) (by kernel_rfl) ?_
            repeat (go_big_quiet_step (fail))
            refine wpQuiet_nil ?_
            intro _ hw'
            obtain ⟨⟨dq, osq⟩, hw''⟩ := hw'
            subst hw''
            have hbQ := mkHid (hB.out.trans ((below_regrown wr dq osq).mono hB.out.size))
            generalize Go.Sort.grow (redrawn wr dq) osq = wq at *
            clear k0 k1
            go_wp2
            go_ret
            rw [hr.out]
            exact ⟨rfl, hbQ.out⟩
        · have hr : Hid (A = true) := by
            have := hz.out
            rw [List.drop_eq_nil_of_le (by omega)] at this
            exact this.symm
          clear hz
          go_wp2
          go_ret
          rw [hr.out]
          exact ⟨rfl, hB.out⟩
    · have x2 : decide ((100 : Int) < (F.length : Int)) = true := decide_eq_true (by omega)
      rw [decide_eq_false h2, Bool.false_and, Bool.and_false]
      go_enter Tryz.func46, Tryz.ntmps46
      go_wp2
      go_ret
      exact ⟨rfl, Below.refl _ _⟩
  · have x1 : decide ((F.length : Int) < 1) = true := decide_eq_true (by omega)
    rw [decide_eq_false h1, Bool.false_and]
    go_enter Tryz.func46, Tryz.ntmps46
    go_wp2
    go_ret
    exact ⟨rfl, Below.refl _ _⟩
set_option maxRecDepth 20000 in
theorem specShow (z : Int) (h0 : 0 ≤ z) (h1 : z ≤ 4294967295) (w : World) : Calls Tryz.prog 47 #[.int .i64 z] w fun e w' => e = .returned (.string ⟨(Rg.num z).toArray⟩) ∧ Below w.heap.size w w' := by
  unfold Rg.num
  by_cases h : z = 4294967295
  · subst h
    rw [if_pos rfl]
    go_enter Tryz.func47, Tryz.ntmps47
    go_wp2
    go_ret
    exact ⟨rfl, Below.refl _ _⟩
  · rw [if_neg h]
    have cD := mkHid (specDec z.toNat (by omega) w)
    rw [show ((z.toNat : Nat) : Int) = z by omega] at cD
    have hb : (z == 4294967295) = false := by rw [beq_eq_false_iff_ne]; exact h
    generalize z.toNat = zn at *
    go_enter Tryz.func47, Tryz.ntmps47
    go_wp2_with fail
    refine cD.out.mono ?_
    rintro e w1 ⟨rfl, hb1⟩
    go_wp2
    go_ret
    exact ⟨rfl, hb1⟩
set_option maxRecDepth 20000 in
theorem cell_ltR {w : World} {p : Addr} {v : Value} (h : w.cell? p = some v) : p.block < w.heap.size := by
  by_cases hb : p.block < w.heap.size
  · exact hb
  · have e : w.heap[p.block]? = none := Array.getElem?_eq_none (by omega)
    simp [World.cell?, e] at h
set_option maxRecDepth 20000 in
set_option maxHeartbeats 8000000 in
theorem specWriteRanges (o : Option Addr) (F : List GRange) (cap lo : Nat) (w : World) (hF : GRangesL lo w.heap.size w o F) (hl : F.length ≤ 1048576) (_hf : ∀ f ∈ F, f.fits 1048576) :
    Calls Tryz.prog 26 #[.slice o F.length cap] w fun e w' => e = .returned (.string (plWriteRanges F)) ∧ Below w.heap.size w w' := by
  have cO := mkHid (specRangesOk o F cap lo w hF hl)
  unfold plWriteRanges
  have HF := mkHid hF
  clear hF
  cases hok : Rg.rsOk F
  · rw [hok] at cO
    go_enter Tryz.func26, Tryz.ntmps26
    go_wp2_with fail
    refine cO.out.mono ?_
    rintro e w1 ⟨rfl, hb1⟩
    go_wp2
    go_ret
    exact ⟨rfl, hb1⟩
  · rw [hok] at cO
    rw [if_pos rfl]
    unfold Rg.rsOk at hok
    simp only [Bool.and_eq_true, decide_eq_true_eq, List.all_eq_true] at hok
    obtain ⟨n1, n2, hall⟩ := hok
    have Hall := mkHid hall
    clear hall
    go_enter Tryz.func26, Tryz.ntmps26
    go_wp2_with fail
    refine cO.out.mono ?_
    rintro e w1 ⟨rfl, hb1⟩
    replace hb1 := mkHid hb1
    clear cO
    go_wp2
    go_loopw [3, 4] (fun sv iv wr => ∃ (i : Nat) (out : List UInt8), i ≤ F.length ∧ iv = .int .i64 i ∧ sv = .string ⟨out.toArray⟩ ∧ (i = 0 ∧ out = [] ∨ 0 < i ∧ Hid (out ++ Rg.more (F.drop i) = Rg.wr F)) ∧ out.length ≤ 22 * i ∧ Hid (Below w.heap.size w wr)) (fun _ iv _ => F.length - (Lib.intOf iv).toNat)
    case atStart => exact ⟨0, [], Nat.zero_le _, rfl, rfl, .inl ⟨rfl, rfl⟩, by simp, hb1⟩
    case round =>
      clear hb1
      obtain ⟨i, out, hi, rfl, rfl, hst, hln, hB⟩ := hrel
      by_cases hlt : i < F.length
      · obtain ⟨a, rfl, ha1, ha2, hAt⟩ := ((HF.out.below hB.out (Nat.le_refl _)).mono (Nat.le_refl _) hB.out.size) i hlt
        have d0 := hAt.c0
        have d1 := hAt.c1
        have hr := Hall.out F[i] (List.getElem_mem hlt)
        have hib : (0 : Int) ≤ (i : Int) ∧ (i : Int) < (F.length : Int) := ⟨by omega, by omega⟩
        have hone : Rg.one F[i] = Rg.num F[i].fromF ++ (if F[i].fromF < F[i].toF then 58 :: Rg.num F[i].toF else []) := rfl
        unfold Rg.rOk at hr
        simp only [Bool.and_eq_true, decide_eq_true_eq] at hr
        obtain ⟨r1, r2, r3⟩ := hr
        have hmS := Rg.more_step F i hlt
        have h0S : Hid (i = 0 → Rg.wr F = Rg.one F[i] ++ Rg.more (F.drop (i + 1))) := by
          intro e
          subst e
          exact Rg.wr_step F hlt
        rw [hone] at hmS h0S
        clear hAt hone
        generalize F[i].fromF = p at *
        generalize F[i].toF = q at *
        have hlp : (Rg.num p).length ≤ 10 := Rg.num_small p (by omega) (by omega)
        have cP := mkHid (specShow p (by omega) (by omega) wr)
        rcases hst with ⟨hi0, hout⟩ | ⟨hi0, hst⟩
        · have u0 : decide ((0 : Int) < (i : Int)) = false := decide_eq_false (by omega)
          have hnx : Hid (out ++ (Rg.num p ++ (if p < q then 58 :: Rg.num q else [])) ++ Rg.more (F.drop (i + 1)) = Rg.wr F) := by
            show _ = _
            rw [h0S.out hi0, hout]
            rfl
          clear h0S hmS hout
          have hni : ¬ 0 < i := by omega
          replace hi0 := mkHid hi0
          go_wp2_with fail
          refine cP.out.mono ?_
          rintro e w1 ⟨rfl, hb1⟩
          have B1 := mkHid (hB.out.trans (hb1.mono hB.out.size))
          have d0' := (hb1.cell (cell_ltR d0)).trans d0
          have d1' := (hb1.cell (cell_ltR d1)).trans d1
          have hlt1 := cell_ltR d1'
          have k0 := cell_regrown d0'
          have k1 := cell_regrown d1'
          clear cP hb1
          by_cases y : p < q
          · have u : decide (p < q) = true := decide_eq_true y
            have HN : Hid (out ++ (Rg.num p ++ 58 :: Rg.num q) ++ Rg.more (F.drop (i + 1)) = Rg.wr F) := by
              show _ = _
              have := hnx.out
              rw [if_pos y] at this
              exact this
            have hlN : (Rg.num q).length ≤ 10 := Rg.num_small q (by omega) (by omega)
            go_wp2
            refine wp_region_quiet_below (by kernel_rfl) (by kernel_rfl) ?_
            repeat (go_big_quiet_step (fail))
            refine wpQuiet_nil ?_
            intro _ hw'
            obtain ⟨⟨dq, osq⟩, hw''⟩ := hw'
            subst hw''
            have bq := below_regrown w1 dq osq
            have B2 := mkHid (B1.out.trans (bq.mono B1.out.size))
            have e1 := (bq.cell (p := ⟨(a.add (i * 2)).block, (a.add (i * 2)).off + 1, none⟩) hlt1).trans d1'
            generalize Go.Sort.grow (redrawn w1 dq) osq = w2 at *
            clear bq
            have cQ := mkHid (specShow q (by omega) (by omega) w2)
            clear k0 k1 hnx d0' d1' d0 d1
            go_wp2_with fail
            refine cQ.out.mono ?_
            rintro e w3 ⟨rfl, hb3⟩
            have B3 := mkHid (B2.out.trans (hb3.mono B2.out.size))
            clear cQ hb3 B1 B2 e1
            go_wp2
            go_roundw
            case rel => exact ⟨i + 1, out ++ (Rg.num p ++ 58 :: Rg.num q), by omega, by go_num, by
                show Value.string (((⟨out.toArray⟩ ++ ⟨(Rg.num p).toArray⟩) ++ ⟨[58].toArray⟩) ++ ⟨(Rg.num q).toArray⟩) = _
                simp only [ba_join, List.append_assoc, List.cons_append, List.nil_append], .inr ⟨by omega, HN⟩, by simp only [List.length_append, List.length_cons]; omega, B3⟩
            case measure => simp [Lib.intOf]; omega
          · have u : decide (p < q) = false := decide_eq_false y
            have HN : Hid (out ++ Rg.num p ++ Rg.more (F.drop (i + 1)) = Rg.wr F) := by
              show _ = _
              have := hnx.out
              rw [if_neg y, List.append_nil] at this
              exact this
            go_wp2
            refine wp_region_quiet_below (by kernel_rfl) (by kernel_rfl) ?_
            repeat (go_big_quiet_step (fail))
            refine wpQuiet_nil ?_
            intro _ hw'
            obtain ⟨⟨dq, osq⟩, hw''⟩ := hw'
            subst hw''
            have bq := below_regrown w1 dq osq
            have B2 := mkHid (B1.out.trans (bq.mono B1.out.size))
            have e1 := (bq.cell (p := ⟨(a.add (i * 2)).block, (a.add (i * 2)).off + 1, none⟩) hlt1).trans d1'
            generalize Go.Sort.grow (redrawn w1 dq) osq = w2 at *
            clear bq
            clear k0 k1 hnx d0' d1' d0 d1 e1
            go_wp2
            go_roundw
            case rel => exact ⟨i + 1, out ++ Rg.num p, by omega, by go_num, by
                show Value.string (⟨out.toArray⟩ ++ ⟨(Rg.num p).toArray⟩) = _
                simp only [ba_join], .inr ⟨by omega, HN⟩, by simp only [List.length_append]; omega, B2⟩
            case measure => simp [Lib.intOf]; omega
        · have u0 : decide ((0 : Int) < (i : Int)) = true := decide_eq_true (by omega)
          have hnx : Hid ((out ++ [44]) ++ (Rg.num p ++ (if p < q then 58 :: Rg.num q else [])) ++ Rg.more (F.drop (i + 1)) = Rg.wr F) := by
            show _ = _
            rw [← hst.out, hmS]
            simp
          clear h0S hmS hst
          go_wp2_with fail
          refine cP.out.mono ?_
          rintro e w1 ⟨rfl, hb1⟩
          have B1 := mkHid (hB.out.trans (hb1.mono hB.out.size))
          have d0' := (hb1.cell (cell_ltR d0)).trans d0
          have d1' := (hb1.cell (cell_ltR d1)).trans d1
          have hlt1 := cell_ltR d1'
          have k0 := cell_regrown d0'
          have k1 := cell_regrown d1'
          clear cP hb1
          by_cases y : p < q
          · have u : decide (p < q) = true := decide_eq_true y
            have HN : Hid ((out ++ [44]) ++ (Rg.num p ++ 58 :: Rg.num q) ++ Rg.more (F.drop (i + 1)) = Rg.wr F) := by
              show _ = _
              have := hnx.out
              rw [if_pos y] at this
              exact this
            have hlN : (Rg.num q).length ≤ 10 := Rg.num_small q (by omega) (by omega)
            go_wp2
            refine wp_region_quiet_below (by kernel_rfl) (by kernel_rfl) ?_
            repeat (go_big_quiet_step (fail))
            refine wpQuiet_nil ?_
            intro _ hw'
            obtain ⟨⟨dq, osq⟩, hw''⟩ := hw'
            subst hw''
            have bq := below_regrown w1 dq osq
            have B2 := mkHid (B1.out.trans (bq.mono B1.out.size))
            have e1 := (bq.cell (p := ⟨(a.add (i * 2)).block, (a.add (i * 2)).off + 1, none⟩) hlt1).trans d1'
            generalize Go.Sort.grow (redrawn w1 dq) osq = w2 at *
            clear bq
            have cQ := mkHid (specShow q (by omega) (by omega) w2)
            clear k0 k1 hnx d0' d1' d0 d1
            go_wp2_with fail
            refine cQ.out.mono ?_
            rintro e w3 ⟨rfl, hb3⟩
            have B3 := mkHid (B2.out.trans (hb3.mono B2.out.size))
            clear cQ hb3 B1 B2 e1
            go_wp2
            go_roundw
            case rel => exact ⟨i + 1, (out ++ [44]) ++ (Rg.num p ++ 58 :: Rg.num q), by omega, by go_num, by
                show Value.string ((((⟨out.toArray⟩ ++ ⟨[44].toArray⟩) ++ ⟨(Rg.num p).toArray⟩) ++ ⟨[58].toArray⟩) ++ ⟨(Rg.num q).toArray⟩) = _
                simp only [ba_join, List.append_assoc, List.cons_append, List.nil_append], .inr ⟨by omega, HN⟩, by simp only [List.length_append, List.length_cons, List.length_nil]; omega, B3⟩
            case measure => simp [Lib.intOf]; omega
          · have u : decide (p < q) = false := decide_eq_false y
            have HN : Hid ((out ++ [44]) ++ Rg.num p ++ Rg.more (F.drop (i + 1)) = Rg.wr F) := by
              show _ = _
              have := hnx.out
              rw [if_neg y, List.append_nil] at this
              exact this
            go_wp2
            refine wp_region_quiet_below (by kernel_rfl) (by kernel_rfl) ?_
            repeat (go_big_quiet_step (fail))
            refine wpQuiet_nil ?_
            intro _ hw'
            obtain ⟨⟨dq, osq⟩, hw''⟩ := hw'
            subst hw''
            have bq := below_regrown w1 dq osq
            have B2 := mkHid (B1.out.trans (bq.mono B1.out.size))
            have e1 := (bq.cell (p := ⟨(a.add (i * 2)).block, (a.add (i * 2)).off + 1, none⟩) hlt1).trans d1'
            generalize Go.Sort.grow (redrawn w1 dq) osq = w2 at *
            clear bq
            clear k0 k1 hnx d0' d1' d0 d1 e1
            go_wp2
            go_roundw
            case rel => exact ⟨i + 1, (out ++ [44]) ++ Rg.num p, by omega, by go_num, by
                show Value.string ((⟨out.toArray⟩ ++ ⟨[44].toArray⟩) ++ ⟨(Rg.num p).toArray⟩) = _
                simp only [ba_join, List.append_assoc], .inr ⟨by omega, HN⟩, by simp only [List.length_append, List.length_cons, List.length_nil]; omega, B2⟩
            case measure => simp [Lib.intOf]; omega
      · have hr : Hid (out = Rg.wr F) := by
          rcases hst with ⟨rfl, rfl⟩ | ⟨hi0, hst⟩
          · omega
          · have := hst.out
            rw [List.drop_eq_nil_of_le (by omega), show Rg.more [] = [] from rfl, List.append_nil] at this
            exact this
        clear hst
        go_wp2
        go_ret
        rw [← hr.out]
        exact ⟨rfl, hB.out⟩
end Go.Proofs.YtfaeckaeaeadeaaGreatDoor
