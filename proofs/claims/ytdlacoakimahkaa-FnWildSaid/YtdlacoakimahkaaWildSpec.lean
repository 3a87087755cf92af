
/- The specification's Wild: the table of what fits, and the places. -/
import Derived.Test.YtdlacoakimahkaaWildImpl
namespace Go.Proofs.Ytdlacoakimahkaa
open Go.RowKit Go.Lib
namespace Wi
/-- The table's cells that are right: the rows from c on, and those of the row ahead from e on. -/
def Filled (P : List Int) (L : List UInt8) (d : Nat → Bool) (c e : Nat) : Prop := ∀ i j, i ≤ P.length → j ≤ L.length → (c ≤ i ∨ (i + 1 = c ∧ e ≤ j)) → d (i * (L.length + 1) + j) = F P L i j
theorem Filled.start (P : List Int) (L : List UInt8) (d : Nat → Bool) : Filled P L d (P.length + 1) (L.length + 1) := by
  intro i j hi hj h
  omega
theorem cell_inj (M i j i' j' : Nat) (hj : j < M) (hj' : j' < M) (h : i * M + j = i' * M + j') : i = i' ∧ j = j' := by
  have e1 : (i * M + j) / M = i := by rw [Nat.mul_comm, Nat.mul_add_div (by omega), Nat.div_eq_of_lt hj, Nat.add_zero]
  have e2 : (i' * M + j') / M = i' := by rw [Nat.mul_comm, Nat.mul_add_div (by omega), Nat.div_eq_of_lt hj', Nat.add_zero]
  have e3 : i = i' := by rw [← e1, ← e2, h]
  subst e3
  exact ⟨rfl, by omega⟩
def updB (d : Nat → Bool) (i : Nat) (b : Bool) : Nat → Bool := fun j => if j = i then b else d j
theorem Filled.step {P : List Int} {L : List UInt8} {d : Nat → Bool} {i j : Nat} (h : Filled P L d (i + 1) (j + 1)) (hj : j ≤ L.length) (b : Bool) (hb : b = F P L i j) : Filled P L (updB d (i * (L.length + 1) + j) b) (i + 1) j := by
  intro i' j' hi' hj' hc
  unfold updB
  by_cases e : i' * (L.length + 1) + j' = i * (L.length + 1) + j
  · rw [if_pos e]
    obtain ⟨rfl, rfl⟩ := cell_inj _ _ _ _ _ (by omega) (by omega) e
    exact hb
  · rw [if_neg e]
    refine h i' j' hi' hj' ?_
    rcases hc with hc | ⟨hc, hc'⟩
    · exact .inl hc
    · refine .inr ⟨hc, ?_⟩
      have : j' ≠ j := fun h => e (by subst h; rw [show i' = i by omega])
      omega
theorem Filled.row {P : List Int} {L : List UInt8} {d : Nat → Bool} {i : Nat} (h : Filled P L d (i + 1) 0) : Filled P L d i (L.length + 1) := by
  intro i' j' hi' hj' hc
  refine h i' j' hi' hj' ?_
  omega
theorem srch_min (f : Nat → Bool) (n k0 j : Nat) (h0 : k0 ≤ j) (h : j < srch f n k0) : f j = false := by
  induction n generalizing k0 with
  | zero => unfold srch at h; omega
  | succ n ih =>
    unfold srch at h
    by_cases e : f k0 = true
    · rw [if_pos e] at h; omega
    · rw [if_neg e] at h
      by_cases hk : j = k0
      · subst hk; simpa using e
      · exact ih (k0 + 1) (by omega) h
theorem pos_min (P : List Int) (L : List UInt8) (_ : F P L 0 0 = true) (i : Nat) (h : i < P.length) (hs : P[i] = -1) (j : Nat) (h1 : pos P L i ≤ j) (h2 : j < pos P L (i + 1)) : F P L (i + 1) j = false := by
  rw [pos_star P L i h hs] at h2
  exact srch_min _ _ _ _ h1 h2
end Wi
theorem wrap64W (n : Int) (h0 : -9223372036854775808 ≤ n) (h1 : n ≤ 9223372036854775807) : wrap64 n = n := by
  unfold wrap64; omega
theorem row_in0 (i n m : Nat) (h : i ≤ n) : i * m + m ≤ (n + 1) * m := by
  rw [← Nat.succ_mul]
  exact Nat.mul_le_mul_right _ (by omega)
theorem row_in (i n m : Nat) (h : i < n) : (i + 1) * m + m ≤ (n + 1) * m := by
  rw [← Nat.succ_mul]
  exact Nat.mul_le_mul_right _ (by omega)
theorem rowIs_drewN {g n : Nat} {t : TypeId} {f : Nat → Value} {w : World} (h : w.rowIs g t n f) (nq : Nat) : (w.drewN nq).rowIs g t n f := rowIs_keep h (below_drewN (Below.refl _ _) nq)
theorem Try.info4 : (Try.prog.info? 4).map (fun i => (i.zero, i.size, i.bytes)) = some (some (.bool false), 1, 1) := by kernel_rfl
theorem mul_in (n m : Nat) (hn : n ≤ 201) (hm : m ≤ 2001) : n * m ≤ 402201 := Nat.le_trans (Nat.mul_le_mul hn hm) (by decide)
set_option maxHeartbeats 2000000 in
set_option maxRecDepth 20000 in
theorem specWild (p t : ByteArray) (w : World) (hp : p.size ≤ 200) (ht : t.size ≤ 2000) :
    Calls Try.prog 7 #[.string p, .string t] w fun e w' => ∃ v, e = .returned v ∧ OwnS w.heap.size v (Wi.wild p.data.toList t.data.toList) w' ∧ Below w.heap.size w w' := by
  obtain ⟨i0, hi, hz0, hz1, hz2⟩ := info_parts Try.info9
  have hc1 : decide ((200 : Int) < (p.size : Int)) = false := by simp; omega
  have hc2 : decide ((2000 : Int) < (t.size : Int)) = false := by simp; omega
  have hlt : Hid ((lower t.data.toList).length = t.size) := by simp [lower, Hid]
  go_enter Try.func7, Try.ntmps7
  go_wp2_with fail
  refine (specItems p _ (by omega)).mono ?_
  rintro e w1 ⟨v1, rfl, hown1, hb1⟩
  have hlen := Wi.items_len p.data.toList
  rw [show p.data.toList.length = p.size by simp] at hlen
  have hPi := mkH (Wi.items_ge p.data.toList)
  generalize hP : Wi.items p.data.toList = P at *
  replace hP := mkH hP
  obtain ⟨o, cap, rfl, hcs⟩ := hown1.form
  replace hcs := mkH hcs
  clear hown1
  obtain ⟨n, hn⟩ : ∃ n, n = P.length := ⟨_, rfl⟩
  rw [← hn] at hlen ⊢
  replace hn := mkH hn
  obtain ⟨N, hN⟩ : ∃ N, N = (n + 1) * (t.size + 1) := ⟨_, rfl⟩
  have hNle : N ≤ 402201 := by rw [hN]; exact mul_in _ _ (by omega) (by omega)
  have hw1 : wrap64 (((n : Int) + 1) * ((t.size : Int) + 1)) = (N : Int) := by
    have e : ((n : Int) + 1) * ((t.size : Int) + 1) = (N : Int) := by rw [hN]; push_cast; rfl
    rw [e]; exact wrap64W _ (by omega) (by omega)
  have hmk := run_make_row' (P := Try.prog) 43 4 (.bool false) 1 Try.underlying43 Try.info4 rfl .i64 .i64 N (by omega) (by omega)
  replace hN := mkH hN
  have hs1 := hb1.size
  go_wp2
  clear hmk hw1
  generalize hG : w1.heap.size = G at *
  generalize hm : t.size = m at *
  replace hm := mkH hm
  go_loopw [9] (fun iv wr => ∃ (c : Nat) (z : Int) (d : Nat → Bool), c ≤ n + 1 ∧ iv = .int .i64 z ∧ z + 1 = (c : Int) ∧ Hid (Wi.Filled P (lower t.data.toList) d c (m + 1)) ∧ wr.rowIs G 4 N (fun j => .bool (d j)) ∧ Below G w1 wr) (fun iv _ => (Lib.intOf iv + 1).toNat)
  case atStart =>
    refine ⟨n + 1, n, fun _ => false, Nat.le_refl _, rfl, by omega, ?_, hG ▸ World.rowIs_made w1 (.bool false) N 4, (Below.refl _ _).alloc (by omega) _⟩
    have := Wi.Filled.start P (lower t.data.toList) (fun _ => false)
    rw [hlt.out, ← hn.out] at this
    exact this
  case round =>
    obtain ⟨c, z, d, hc, rfl, hzc, hfil, hrow, hb⟩ := hrel
    rcases Nat.eq_zero_or_pos c with hc0 | hc0
    · obtain rfl : z = -1 := by omega
      subst hc0
      have hall : Hid (∀ i j, i ≤ n → j ≤ m → d (i * (m + 1) + j) = Wi.F P (lower t.data.toList) i j) := by
        intro i j h1 h2
        have := hfil.out i j (by rw [← hn.out]; exact h1) (by rw [hlt.out]; exact h2) (.inl (Nat.zero_le _))
        rw [hlt.out] at this
        exact this
      have hNp : 0 < N := by
        rw [hN.out]
        exact Nat.mul_pos (Nat.succ_pos _) (Nat.succ_pos _)
      have c0 := hrow.cell (i := 0) hNp
      have h00 := hall.out 0 0 (Nat.zero_le _) (Nat.zero_le _)
      rw [Nat.zero_mul] at h00
      rw [h00] at c0
      clear hfil hzc hc h00
      have hbw := hb1.trans (hb.mono hs1)
      cases hF : Wi.F P (lower t.data.toList) 0 0
      · rw [hF] at c0
        have hwi : Hid (Wi.wild p.data.toList t.data.toList = []) := by
          unfold Wi.wild
          rw [hP.out, if_neg (by rw [hF]; decide)]
          exact rfl
        clear hF hall hrow hcs hPi hn hm hb1
        replace hbw := mkH hbw
        go_wp2
        go_ret
        rw [hwi.out]
        exact ⟨_, rfl, OwnS.made _ _ hbw.out.size, hbw.out.alloc hbw.out.size _⟩
      · rw [hF] at c0
        have hwi : Hid (Wi.told P (lower t.data.toList) t.data.toList n = Wi.wild p.data.toList t.data.toList) := by
          unfold Wi.wild
          rw [hP.out, if_pos hF, ← hn.out]
          exact rfl
        have hmo := mkH (Wi.pos_mono P (lower t.data.toList) hF)
        have hle := mkH (Wi.pos_F P (lower t.data.toList) hF)
        have hmi := mkH (Wi.pos_min P (lower t.data.toList) hF)
        have hpo := mkH (Wi.pos_one P (lower t.data.toList))
        clear hF
        replace hbw := mkH hbw
        obtain ⟨V, hV⟩ : ∃ V, V = wr := ⟨_, rfl⟩
        go_wp2
        subst hV
        go_loopw [12, 13, 14] (fun v jv iv wr => ∃ k : Nat, k ≤ n ∧ iv = .int .i64 k ∧ jv = .int .i64 (Wi.pos P (lower t.data.toList) k) ∧ OwnS V.heap.size v (Wi.told P (lower t.data.toList) t.data.toList k) wr ∧ Below V.heap.size V wr) (fun _ _ iv _ => n - (Lib.intOf iv).toNat)
        case atStart => exact ⟨0, Nat.zero_le _, rfl, rfl, OwnS.one V t _ (Nat.le_refl _), (Below.refl _ _).alloc (Nat.le_refl _) _⟩
        case round =>
          have hbV := mkH hb
          have hrV := mkH hrow
          clear hb hrow c0
          obtain ⟨k, hk, rfl, rfl, hown, hb⟩ := hrel
          obtain ⟨ao, ac, hv, hbl⟩ : ∃ ao ac, u12 = .slice ao (Wi.told P (lower t.data.toList) t.data.toList k).length ac ∧ True := by
            rcases hown.form with ⟨h1, h2⟩ | ⟨g, c, h1, -⟩
            · exact ⟨none, 0, by rw [h2]; exact h1, trivial⟩
            · exact ⟨_, c, h1, trivial⟩
          subst hv
          by_cases hkn : k < n
          · have hkP : k < P.length := by rw [← hn.out]; exact hkn
            obtain ⟨g0, rfl, hg1, hg0, hcP⟩ := hcs.out k hkP
            have cP := (hb.cell (p := ⟨g0, k, none⟩) (by have := hbV.out.size; show g0 < _; omega)).trans ((hbV.out.cell (p := ⟨g0, k, none⟩) hg0).trans hcP)
            have hy12 := hmo.out k hkP
            have hym := (hle.out (k + 1) hkP).1
            have hyF := mkH (hle.out (k + 1) hkP).2
            rw [hlt.out] at hym
            have hmk := mkH (hmi.out k hkP)
            have hpk := mkH (hpo.out k hkP)
            have htw := mkH (Wi.told_wild P (lower t.data.toList) t.data.toList k hkP)
            have htf := mkH (Wi.told_full P (lower t.data.toList) t.data.toList k hkP)
            have htb := mkH (Wi.told_byte P (lower t.data.toList) t.data.toList k hkP)
            have htl := Wi.told_len P (lower t.data.toList) t.data.toList k
            have hxr := hPi.out P[k] (List.getElem_mem _)
            have hrowr := mkH (rowIs_keep (hrV.out) hb)
            have hall2 := mkH (fun j hj => hall.out (k + 1) j hkn hj)
            have hyt : Hid (Wi.pos P (lower t.data.toList) (k + 1) ≤ t.size) := by rw [hm.out]; exact hym
            clear hcs hPi hmo hle hmi hpo hcP hg1 hall
            generalize Wi.told P (lower t.data.toList) t.data.toList k = T at *
            obtain ⟨y1, hy1⟩ : ∃ y, Wi.pos P (lower t.data.toList) k = y := ⟨_, rfl⟩
            obtain ⟨y2, hy2⟩ : ∃ y, Wi.pos P (lower t.data.toList) (k + 1) = y := ⟨_, rfl⟩
            rw [hy1] at hy12 hmk hpk htw
            rw [hy2] at hy12 hmk hpk htw hym hyF hyt
            rw [hy1]
            replace hy1 := mkH hy1
            replace hy2 := mkH hy2
            have hext := mkH (extW t y1 y2)
            have hytt := hyt.out
            generalize P[k] = x at *
            by_cases hx : x = -1
            · have hx1 : (x == -1) = true := by simpa using hx
              have hx0 : x < 0 := by omega
              have hx0' : decide (x < 0) = true := by simpa using hx0
              obtain ⟨r2, hr2⟩ : ∃ r2, r2 = (k + 1) * (m + 1) := ⟨_, rfl⟩
              have hr2N : r2 + (m + 1) ≤ N := by
                rw [hN.out, hr2]
                exact row_in k n _ hkn
              have hw3 : Value.int .i64 (wrap64 (((k : Int) + 1) * ((m : Int) + 1))) = Value.int .i64 (r2 : Int) := by
                have e : ((k : Int) + 1) * ((m : Int) + 1) = (r2 : Int) := by rw [hr2]; push_cast; rfl
                rw [e, wrap64W _ (by omega) (by omega)]
              rw [← hr2] at hall2
              have hlo := mkH (hmk.out hx)
              clear hr2 hpk hmk hx
              obtain ⟨V2, hV2⟩ : ∃ V2, V2 = wr := ⟨_, rfl⟩
              go_wp2
              subst hV2
              go_loopw [15] (fun kv wr => ∃ kk : Nat, kv = .int .i64 kk ∧ y1 ≤ kk ∧ kk ≤ y2 ∧ wr = V2) (fun kv _ => y2 - (Lib.intOf kv).toNat)
              case atStart => exact ⟨y1, rfl, Nat.le_refl _, hy12, rfl⟩
              case round =>
                obtain ⟨kk, rfl, hk1, hk2, hWr⟩ := hrel
                have hWr' : wr = V2 := hWr
                clear hWr
                subst hWr'
                have cA := hrowr.out.cell (i := r2 + kk) (by omega)
                rw [hall2.out kk (by omega)] at cA
                by_cases hkk : kk < y2
                · rw [hlo.out kk hk1 hkk] at cA
                  clear hlo
                  go_wp2
                  go_roundw
                  case rel => exact ⟨kk + 1, by go_num, by omega, by omega, trivial⟩
                  case measure => simp [Lib.intOf]; omega
                · obtain rfl : kk = y2 := by omega
                  rw [hyF.out] at cA
                  clear hlo hkk
                  by_cases hT : T.length < 10
                  · have hT' : decide ((T.length : Int) < 10) = true := by simp; omega
                    have e1 := mkH (htw.out (by omega) hT)
                    clear htw htf htb hx0 hT
                    go_wp2_with (at_builtin; go_must (refine wp_appS (W := V) rfl _ _ 25 rfl i0 Try.underlying25 hi hz0 hz1 hz2 V.heap.size (.slice ao T.length ac) T rfl hown _ _ hext.out rfl (by omega) (Nat.le_refl _) hb ?_; intro v' w' hown' hb'))
                    rw [← e1.out] at hown'
                    go_roundw
                    case rel => exact ⟨k + 1, by omega, by go_num, (by first | (rw [hy2.out]; done) | (rw [hy2.out]; go_num)), hown', hb'⟩
                    case measure => simp [Lib.intOf]; omega
                  · have hT' : decide ((T.length : Int) < 10) = false := by simp; omega
                    have e1 := mkH (htf.out hT)
                    clear htw htf htb hx0
                    go_wp2
                    go_roundw
                    case rel => exact ⟨k + 1, by omega, by go_num, (by first | (rw [hy2.out]; done) | (rw [hy2.out]; go_num)), by rw [e1.out]; exact hown, hb⟩
                    case measure => simp [Lib.intOf]; omega
            · have hx1 : (x == -1) = false := by simpa using hx
              have hpo := mkH (hpk.out hx)
              obtain rfl : y2 = y1 + 1 := hpo.out
              clear hpk hmk hpo
              by_cases hx0 : x < 0
              · have hx0' : decide (x < 0) = true := by simpa using hx0
                clear hx
                by_cases hT : T.length < 10
                · have hT' : decide ((T.length : Int) < 10) = true := by simp; omega
                  have e1 := mkH (htw.out (by omega) hT)
                  clear htw htf htb hx0 hT
                  go_wp2_with (at_builtin; go_must (refine wp_appS (W := V) rfl _ _ 25 rfl i0 Try.underlying25 hi hz0 hz1 hz2 V.heap.size (.slice ao T.length ac) T rfl hown _ _ hext.out rfl (by omega) (Nat.le_refl _) hb ?_; intro v' w' hown' hb'))
                  rw [← e1.out] at hown'
                  go_roundw
                  case rel => exact ⟨k + 1, by omega, by go_num, (by first | (rw [hy2.out]; done) | (rw [hy2.out]; go_num)), hown', hb'⟩
                  case measure => simp [Lib.intOf]; omega
                · have hT' : decide ((T.length : Int) < 10) = false := by simp; omega
                  have e1 := mkH (htf.out hT)
                  clear htw htf htb hx0
                  go_wp2
                  go_roundw
                  case rel => exact ⟨k + 1, by omega, by go_num, (by first | (rw [hy2.out]; done) | (rw [hy2.out]; go_num)), by rw [e1.out]; exact hown, hb⟩
                  case measure => simp [Lib.intOf]; omega
              · have hx0' : decide (x < 0) = false := by simp; omega
                have e1 := mkH (htb.out (by omega))
                clear hx
                clear htw htf htb hx0
                go_wp2
                go_roundw
                case rel => exact ⟨k + 1, by omega, by go_num, (by first | (rw [hy2.out]; done) | (rw [hy2.out]; go_num)), by rw [e1.out]; exact hown, hb⟩
                case measure => simp [Lib.intOf]; omega
          · obtain rfl : k = n := by omega
            clear hcs hPi hall
            go_wp2
            go_ret
            rw [← hwi.out]
            have hbV2 := hbV.out
            exact ⟨_, rfl, hown.low hbw.out.size, hbw.out.trans (hb.mono hbw.out.size)⟩
    · obtain ⟨i, rfl⟩ : ∃ i, c = i + 1 := ⟨c - 1, by omega⟩
      obtain rfl : z = (i : Int) := by omega
      have hin : i ≤ n := by omega
      clear hzc hc hc0
      obtain ⟨r, hr⟩ : ∃ r, r = i * (m + 1) := ⟨_, rfl⟩
      obtain ⟨r2, hr2⟩ : ∃ r2, r2 = (i + 1) * (m + 1) := ⟨_, rfl⟩
      have hr12 : r2 = r + (m + 1) := by rw [hr, hr2, Nat.succ_mul]
      have hrN : r + (m + 1) ≤ N := by
        rw [hN.out, hr]
        exact row_in0 i n _ hin
      have hw2 : Value.int .i64 (wrap64 ((i : Int) * ((m : Int) + 1))) = Value.int .i64 (r : Int) := by
        have e : (i : Int) * ((m : Int) + 1) = (r : Int) := by rw [hr]; push_cast; rfl
        rw [e, wrap64W _ (by omega) (by omega)]
      have hw3 : Value.int .i64 (wrap64 (((i : Int) + 1) * ((m : Int) + 1))) = Value.int .i64 (r2 : Int) := by
        have e : ((i : Int) + 1) * ((m : Int) + 1) = (r2 : Int) := by rw [hr2]; push_cast; rfl
        rw [e, wrap64W _ (by omega) (by omega)]
      have hrN2 : Hid (i < n → r2 + (m + 1) ≤ N) := by
        intro hlt'
        rw [hN.out, hr2]
        exact row_in i n _ hlt'
      have hr2le : r2 ≤ 402201 := by rw [hr12]; exact Nat.le_trans hrN hNle
      replace hr := mkH hr
      replace hr2 := mkH hr2
      replace hr12 := mkH hr12
      obtain ⟨V, hV⟩ : ∃ V, V = wr := ⟨_, rfl⟩
      go_wp2
      subst hV
      go_loopw [10] (fun jv wr => ∃ (e : Nat) (z : Int) (d : Nat → Bool), e ≤ m + 1 ∧ jv = .int .i64 z ∧ z + 1 = (e : Int) ∧ Hid (Wi.Filled P (lower t.data.toList) d (i + 1) e) ∧ wr.rowIs G 4 N (fun j => .bool (d j)) ∧ Below G w1 wr) (fun jv _ => (Lib.intOf jv + 1).toNat)
      case atStart => exact ⟨m + 1, m, d, Nat.le_refl _, rfl, by omega, hfil, hrow, hb⟩
      case round =>
        clear hfil hrow hb d
        obtain ⟨e, z, d, he, rfl, hze, hfil, hrow, hb⟩ := hrel
        rcases Nat.eq_zero_or_pos e with he0 | he0
        · obtain rfl : z = -1 := by omega
          subst he0
          have hfi := mkH (hfil.out.row)
          rw [hlt.out] at hfi
          clear hfil hcs hPi hn
          go_wp2
          go_roundw
          case rel => exact ⟨i, (i : Int) - 1, d, by omega, by go_num, by omega, hfi.out, hrow, hb⟩
          case measure => simp [Lib.intOf]
        · obtain ⟨j, rfl⟩ : ∃ j, e = j + 1 := ⟨e - 1, by omega⟩
          obtain rfl : z = (j : Int) := by omega
          have hjm : j ≤ m := by omega
          clear hze he he0
          by_cases hi : i < n
          · have hiP : i < P.length := by rw [← hn.out]; exact hi
            obtain ⟨g0, rfl, hg1, hg0, hcP⟩ := hcs.out i hiP
            have hne : g0 ≠ G := by omega
            have hne' : G ≠ g0 := by omega
            have cP := (hb.cell (p := ⟨g0, i, none⟩) hg0).trans hcP
            have hin' : ((i : Int) == (n : Int)) = false := by simp; omega
            have hrb := hrN2.out hi
            have hA := hfil.out (i + 1) j (by omega) (by rw [hlt.out]; omega) (.inl (Nat.le_refl _))
            rw [hlt.out, ← hr2.out] at hA
            have cA := hrow.cell (i := r2 + j) (by omega)
            have hFs := mkH (Wi.F_star P (lower t.data.toList) i j hiP)
            have hFe := mkH (Wi.F_star_end P (lower t.data.toList) i j hiP)
            have hF1 := mkH (Wi.F_one P (lower t.data.toList) i j hiP)
            have hF0 := mkH (Wi.F_one_end P (lower t.data.toList) i j hiP)
            clear hcP hg1
            generalize P[i] = x at *
            by_cases hx : x = -1
            · have hx1 : (x == -1) = true := by simpa using hx
              have hx2 : (x != -1) = false := by simp [hx]
              rw [hA] at cA
              cases hFA : Wi.F P (lower t.data.toList) (i + 1) j
              · rw [hFA] at cA
                by_cases hj : j < m
                · have hB := hfil.out i (j + 1) (by omega) (by rw [hlt.out]; omega) (.inr ⟨rfl, Nat.le_refl _⟩)
                  rw [hlt.out, ← hr.out] at hB
                  have cB := hrow.cell (i := r + j + 1) (by omega)
                  rw [show r + j + 1 = r + (j + 1) from rfl, hB] at cB
                  rw [show r + (j + 1) = r + j + 1 from rfl] at cB
                  obtain ⟨v2, hv2⟩ : ∃ v2, Wi.F P (lower t.data.toList) i (j + 1) = v2 := ⟨_, rfl⟩
                  rw [hv2] at cB
                  have hjm' : ((j : Int) == (m : Int)) = false := by simp; omega
                  have hb9 : Hid (v2 = Wi.F P (lower t.data.toList) i j) := by
                    rw [hFs.out hx (by rw [hlt.out]; exact hj), hFA, hv2]
                    exact rfl
                  have hst := mkH (fun nq => (rowIs_drewN hrow nq).set (r + j) (.bool v2))
                  have hbw := mkH (fun nq => (below_drewN hb nq).setCell (p := ⟨G, r + j, none⟩) (Nat.le_refl _) (.bool v2))
                  have hfi := mkH (hfil.out.step (by rw [hlt.out]; omega) v2 hb9.out)
                  rw [hlt.out, ← hr.out] at hfi
                  have hcx := hrow.cell (i := r + j) (by omega)
                  have hfx := hrow.frozen (r + j)
                  clear hFs hFe hF1 hF0 hA hB hFA hv2 hx
                  clear hfil hrow hb hb9 hcs hPi hn hm
                  go_wp2
                  go_quiet (fail)
                  go_wp2
                  go_roundw
                  case rel => exact ⟨j, (j : Int) - 1, _, by omega, by go_num, by omega, hfi.out, (hst.out _).congr (fun k _ => by show (if k = r + j then Value.bool _ else Value.bool (d k)) = _; unfold Wi.updB; split <;> rfl), hbw.out _⟩
                  case measure => simp [Lib.intOf]
                · have hjm' : ((j : Int) == (m : Int)) = true := by simp; omega
                  have hb9 : Hid (false = Wi.F P (lower t.data.toList) i j) := by
                    rw [hFe.out hx (by rw [hlt.out]; omega), hFA]
                    exact rfl
                  have hst := mkH (fun nq => (rowIs_drewN hrow nq).set (r + j) (.bool false))
                  have hbw := mkH (fun nq => (below_drewN hb nq).setCell (p := ⟨G, r + j, none⟩) (Nat.le_refl _) (.bool false))
                  have hfi := mkH (hfil.out.step (by rw [hlt.out]; omega) false hb9.out)
                  rw [hlt.out, ← hr.out] at hfi
                  have hcx := hrow.cell (i := r + j) (by omega)
                  have hfx := hrow.frozen (r + j)
                  clear hFs hFe hF1 hF0 hA hFA hx
                  clear hfil hrow hb hb9 hcs hPi hn hm
                  go_wp2
                  go_quiet (fail)
                  go_wp2
                  go_roundw
                  case rel => exact ⟨j, (j : Int) - 1, _, by omega, by go_num, by omega, hfi.out, (hst.out _).congr (fun k _ => by show (if k = r + j then Value.bool _ else Value.bool (d k)) = _; unfold Wi.updB; split <;> rfl), hbw.out _⟩
                  case measure => simp [Lib.intOf]
              · rw [hFA] at cA
                have hFt : Hid (true = Wi.F P (lower t.data.toList) i j) := by
                  by_cases hj : j < m
                  · rw [hFs.out hx (by rw [hlt.out]; exact hj), hFA]; exact rfl
                  · rw [hFe.out hx (by rw [hlt.out]; omega), hFA]; exact rfl
                have hb9 : Hid (true = Wi.F P (lower t.data.toList) i j) := by
                  exact hFt.out
                have hst := mkH (fun nq => (rowIs_drewN hrow nq).set (r + j) (.bool true))
                have hbw := mkH (fun nq => (below_drewN hb nq).setCell (p := ⟨G, r + j, none⟩) (Nat.le_refl _) (.bool true))
                have hfi := mkH (hfil.out.step (by rw [hlt.out]; omega) true hb9.out)
                rw [hlt.out, ← hr.out] at hfi
                have hcx := hrow.cell (i := r + j) (by omega)
                have hfx := hrow.frozen (r + j)
                clear hFs hFe hF1 hF0 hA hFA hx
                clear hfil hrow hb hb9 hcs hPi hn hm
                go_wp2
                go_quiet (fail)
                go_wp2
                go_roundw
                case rel => exact ⟨j, (j : Int) - 1, _, by omega, by go_num, by omega, hfi.out, (hst.out _).congr (fun k _ => by show (if k = r + j then Value.bool _ else Value.bool (d k)) = _; unfold Wi.updB; split <;> rfl), hbw.out _⟩
                case measure => simp [Lib.intOf]
            · have hx1 : (x == -1) = false := by simpa using hx
              have hx2 : (x != -1) = true := by simpa using hx
              clear cA hA
              by_cases hj : j < m
              · have hjm' : ((j : Int) == (m : Int)) = false := by simp; omega
                have hjt : j < t.size := by rw [hm.out]; exact hj
                have hB := hfil.out (i + 1) (j + 1) (by omega) (by rw [hlt.out]; omega) (.inl (Nat.le_refl _))
                rw [hlt.out, ← hr2.out] at hB
                have cB := hrow.cell (i := r2 + j + 1) (by omega)
                rw [show r2 + j + 1 = r2 + (j + 1) from rfl, hB] at cB
                rw [show r2 + (j + 1) = r2 + j + 1 from rfl] at cB
                obtain ⟨v2, hv2⟩ : ∃ v2, Wi.F P (lower t.data.toList) (i + 1) (j + 1) = v2 := ⟨_, rfl⟩
                rw [hv2] at cB
                have hFx := hF1.out hx (by rw [hlt.out]; exact hj)
                rw [show (lower t.data.toList)[j]'(by rw [hlt.out]; exact hj) = small t[j] by simp [lower]; rfl, hv2, Wi.ok] at hFx
                replace hFx := mkH hFx
                have h8 : (small t[j]).toNat < 256 := UInt8.toNat_lt _
                have hSm : Hid (∀ n, Calls Try.prog 18 #[.int .u8 (t[j].toNat : Int)] (wr.drewN n) fun e w'' => e = .returned (.int .u8 ((small t[j]).toNat : Int)) ∧ ∃ m, w'' = wr.drewN m) := fun n => Calls.quiet_of_same ((specSmall t[j] _).mono fun e w' ⟨h1, h2⟩ => ⟨h1, h2.symm⟩)
                generalize small t[j] = sc at *
                by_cases hm2 : x = -2
                · have hm2' : (x == -2) = true := by simpa using hm2
                  have hb9 : Hid (v2 = Wi.F P (lower t.data.toList) i j) := by
                    rw [hFx.out, hm2']
                    exact rfl
                  have hst := mkH (fun nq => (rowIs_drewN hrow nq).set (r + j) (.bool v2))
                  have hbw := mkH (fun nq => (below_drewN hb nq).setCell (p := ⟨G, r + j, none⟩) (Nat.le_refl _) (.bool v2))
                  have hfi := mkH (hfil.out.step (by rw [hlt.out]; omega) v2 hb9.out)
                  rw [hlt.out, ← hr.out] at hfi
                  have hcx := hrow.cell (i := r + j) (by omega)
                  have hfx := hrow.frozen (r + j)
                  clear hFs hFe hF1 hF0 hB hv2 hx hFx hm2 hSm
                  clear hfil hrow hb hb9 hcs hPi hn hm
                  go_wp2
                  go_quiet (fail)
                  go_wp2
                  go_roundw
                  case rel => exact ⟨j, (j : Int) - 1, _, by omega, by go_num, by omega, hfi.out, (hst.out _).congr (fun k _ => by show (if k = r + j then Value.bool _ else Value.bool (d k)) = _; unfold Wi.updB; split <;> rfl), hbw.out _⟩
                  case measure => simp [Lib.intOf]
                · have hm2' : (x == -2) = false := by simpa using hm2
                  by_cases hsc : x = (sc.toNat : Int)
                  · have hsc' : (x == (sc.toNat : Int)) = true := by simpa using hsc
                    have hb9 : Hid (v2 = Wi.F P (lower t.data.toList) i j) := by
                      rw [hFx.out, hm2', hsc']
                      exact rfl
                    have hst := mkH (fun nq => (rowIs_drewN hrow nq).set (r + j) (.bool v2))
                    have hbw := mkH (fun nq => (below_drewN hb nq).setCell (p := ⟨G, r + j, none⟩) (Nat.le_refl _) (.bool v2))
                    have hfi := mkH (hfil.out.step (by rw [hlt.out]; omega) v2 hb9.out)
                    rw [hlt.out, ← hr.out] at hfi
                    have hcx := hrow.cell (i := r + j) (by omega)
                    have hfx := hrow.frozen (r + j)
                    clear hFs hFe hF1 hF0 hB hv2 hx hFx hm2 hsc
                    clear hfil hrow hb hb9 hcs hPi hn hm
                    go_wp2
                    go_quiet (exact hSm.out _)
                    go_wp2
                    go_roundw
                    case rel => exact ⟨j, (j : Int) - 1, _, by omega, by go_num, by omega, hfi.out, (hst.out _).congr (fun k _ => by show (if k = r + j then Value.bool _ else Value.bool (d k)) = _; unfold Wi.updB; split <;> rfl), hbw.out _⟩
                    case measure => simp [Lib.intOf]
                  · have hsc' : (x == (sc.toNat : Int)) = false := by simpa using hsc
                    have hb9 : Hid (false = Wi.F P (lower t.data.toList) i j) := by
                      rw [hFx.out, hm2', hsc']
                      exact rfl
                    have hst := mkH (fun nq => (rowIs_drewN hrow nq).set (r + j) (.bool false))
                    have hbw := mkH (fun nq => (below_drewN hb nq).setCell (p := ⟨G, r + j, none⟩) (Nat.le_refl _) (.bool false))
                    have hfi := mkH (hfil.out.step (by rw [hlt.out]; omega) false hb9.out)
                    rw [hlt.out, ← hr.out] at hfi
                    have hcx := hrow.cell (i := r + j) (by omega)
                    have hfx := hrow.frozen (r + j)
                    clear hFs hFe hF1 hF0 hB hv2 hx hFx hm2 hsc
                    clear hfil hrow hb hb9 hcs hPi hn hm
                    go_wp2
                    go_quiet (exact hSm.out _)
                    go_wp2
                    go_roundw
                    case rel => exact ⟨j, (j : Int) - 1, _, by omega, by go_num, by omega, hfi.out, (hst.out _).congr (fun k _ => by show (if k = r + j then Value.bool _ else Value.bool (d k)) = _; unfold Wi.updB; split <;> rfl), hbw.out _⟩
                    case measure => simp [Lib.intOf]
              · have hjm' : ((j : Int) == (m : Int)) = true := by simp; omega
                have hb9 : Hid (false = Wi.F P (lower t.data.toList) i j) := by
                  rw [hF0.out hx (by rw [hlt.out]; omega)]
                  exact rfl
                have hst := mkH (fun nq => (rowIs_drewN hrow nq).set (r + j) (.bool false))
                have hbw := mkH (fun nq => (below_drewN hb nq).setCell (p := ⟨G, r + j, none⟩) (Nat.le_refl _) (.bool false))
                have hfi := mkH (hfil.out.step (by rw [hlt.out]; omega) false hb9.out)
                rw [hlt.out, ← hr.out] at hfi
                have hcx := hrow.cell (i := r + j) (by omega)
                have hfx := hrow.frozen (r + j)
                clear hFs hFe hF1 hF0 hx
                clear hfil hrow hb hb9 hcs hPi hn hm
                go_wp2
                go_quiet (fail)
                go_wp2
                go_roundw
                case rel => exact ⟨j, (j : Int) - 1, _, by omega, by go_num, by omega, hfi.out, (hst.out _).congr (fun k _ => by show (if k = r + j then Value.bool _ else Value.bool (d k)) = _; unfold Wi.updB; split <;> rfl), hbw.out _⟩
                case measure => simp [Lib.intOf]
          · have hin' : ((i : Int) == (n : Int)) = true := by simp; omega
            by_cases hj : j < m
            · have hjm' : ((j : Int) == (m : Int)) = false := by simp; omega
              have hb9 : Hid (false = Wi.F P (lower t.data.toList) i j) := by
                rw [Wi.F_end P _ i j (by rw [← hn.out]; omega), hlt.out]
                show _ = _
                symm
                simp
                omega
              have hst := mkH (fun nq => (rowIs_drewN hrow nq).set (r + j) (.bool false))
              have hbw := mkH (fun nq => (below_drewN hb nq).setCell (p := ⟨G, r + j, none⟩) (Nat.le_refl _) (.bool false))
              have hfi := mkH (hfil.out.step (by rw [hlt.out]; omega) false hb9.out)
              rw [hlt.out, ← hr.out] at hfi
              have hcx := hrow.cell (i := r + j) (by omega)
              have hfx := hrow.frozen (r + j)
              clear hfil hrow hb hb9 hcs hPi hn hm
              go_wp2
              go_quiet (fail)
              go_wp2
              go_roundw
              case rel => exact ⟨j, (j : Int) - 1, _, by omega, by go_num, by omega, hfi.out, (hst.out _).congr (fun k _ => by show (if k = r + j then Value.bool _ else Value.bool (d k)) = _; unfold Wi.updB; split <;> rfl), hbw.out _⟩
              case measure => simp [Lib.intOf]
            · have hjm' : ((j : Int) == (m : Int)) = true := by simp; omega
              have hb9 : Hid (true = Wi.F P (lower t.data.toList) i j) := by
                rw [Wi.F_end P _ i j (by rw [← hn.out]; omega), hlt.out]
                show _ = _
                symm
                simp
                omega
              have hst := mkH (fun nq => (rowIs_drewN hrow nq).set (r + j) (.bool true))
              have hbw := mkH (fun nq => (below_drewN hb nq).setCell (p := ⟨G, r + j, none⟩) (Nat.le_refl _) (.bool true))
              have hfi := mkH (hfil.out.step (by rw [hlt.out]; omega) true hb9.out)
              rw [hlt.out, ← hr.out] at hfi
              have hcx := hrow.cell (i := r + j) (by omega)
              have hfx := hrow.frozen (r + j)
              clear hfil hrow hb hb9 hcs hPi hn hm
              go_wp2
              go_quiet (fail)
              go_wp2
              go_roundw
              case rel => exact ⟨j, (j : Int) - 1, _, by omega, by go_num, by omega, hfi.out, (hst.out _).congr (fun k _ => by show (if k = r + j then Value.bool _ else Value.bool (d k)) = _; unfold Wi.updB; split <;> rfl), hbw.out _⟩
              case measure => simp [Lib.intOf]
end Go.Proofs.Ytdlacoakimahkaa
