
/- The search for a pattern's places, on the program's side. -/
import Derived.Test.YtdlacoakimahkaaWildItems
import Derived.Deep.OwnRows
import Derived.Deep.QuietTactic
import Derived.BigQuiet
import Derived.Lib.QuietBelow
namespace Go.Proofs.Ytdlacoakimahkaa
open Go.RowKit Go.Lib
theorem Wi.pb_ok (x : Int) (c : UInt8) (h1 : x ≠ -1) : (x == -2 || pb x == (c.toNat : Int)) = Wi.ok x c := by
  unfold Wi.ok pb
  rw [if_neg h1]
  by_cases h : x = -2
  · simp [h]
  · rw [if_neg h]
set_option maxHeartbeats 400000 in
theorem implFits (x : Int) (c : UInt8) (w : World) (h1 : x ≠ -1) :
    Calls Try.prog 19 #[.agg #[.bool (x == -1), .bool (x == -2), .int .u8 (pb x)], .int .u8 (c.toNat : Int)] w fun e w' => e = .returned (.bool (Wi.ok x c)) ∧ ∃ ob, w' = w.alloc ob := by
  have h8 : c.toNat < 256 := UInt8.toNat_lt _
  rw [← Wi.pb_ok x c h1]
  generalize (x == -1) = b1
  generalize (x == -2) = b2
  generalize pb x = y
  cases b2
  · go_enter Try.func19, Try.ntmps19
    go_wp2
    go_ret
    exact ⟨rfl, _, rfl⟩
  · go_enter Try.func19, Try.ntmps19
    go_wp2
    go_ret
    exact ⟨rfl, _, rfl⟩
def pieceAt (w : World) (B : Nat) (o : Option Addr) (P : List Int) : Prop := ∀ (j : Nat) (hj : j < P.length), ∃ g, o = some ⟨g, 0, none⟩ ∧ g < B ∧ w.cell? ⟨g, j * 3, none⟩ = some (.bool (P[j] == -1)) ∧ w.cell? ⟨g, j * 3 + 1, none⟩ = some (.bool (P[j] == -2)) ∧ w.cell? ⟨g, j * 3 + 2, none⟩ = some (.int .u8 (pb P[j]))
/-- What the search answers: the places, or none. -/
def PlOut (g n : Nat) (P : List Int) (L : List UInt8) (v : Value) (w : World) : Prop :=
  (Wi.F P L 0 0 = false ∧ v = .tuple #[.slice none 0 0, .bool false]) ∨ (Wi.F P L 0 0 = true ∧ v = .tuple #[.slice (some ⟨g, 0, none⟩) (n + 1) (n + 1), .bool true] ∧ w.rowIs g 3 (n + 1) (fun j => .int .i64 (Wi.pos P L j)))
theorem rowIs_keep {g n : Nat} {t : TypeId} {f : Nat → Value} {w w' : World} (h : w.rowIs g t n f) (hb : Below w.heap.size w w') : w'.rowIs g t n f := h.of_block (hb.block g h.lt)
set_option maxHeartbeats 1000000 in
set_option maxRecDepth 20000 in
theorem implPlaces (o : Option Addr) (cap n : Nat) (P : List Int) (hPn : P.length = n) (hP : ∀ x ∈ P, -2 ≤ x ∧ x < 256) (t : ByteArray) (w : World) (hp : n ≤ 200) (ht : t.size ≤ 2000) (hpc : pieceAt w w.heap.size o P) :
    Calls Try.prog 15 #[.slice o n cap, .string t] w fun e w' => ∃ v, e = .returned v ∧ PlOut w.heap.size n P t.data.toList v w' ∧ Below w.heap.size w w' := by
  have hmk := run_make_row' (P := Try.prog) 37 3 (.int .i64 0) 8 Try.underlying37 Try.info3 rfl .i64 .i64 (n + 1) (by omega) (by omega)
  rw [show (((n + 1 : Nat)) : Int) = (n : Int) + 1 by omega] at hmk
  go_enter Try.func15, Try.ntmps15
  go_wp2
  clear hmk
  generalize hg : w.heap.size = g at *
  go_loopw [4, 5, 6, 7, 8] (fun bv fv xv av sv wr => ∃ (x a q : Nat) (s : Int) (B : Nat → Nat), bv = .slice (some ⟨g, 0, none⟩) (n + 1) (n + 1) ∧ fv = .bool false ∧ xv = .int .i64 x ∧ av = .int .i64 a ∧ sv = .int .i64 s ∧ s + 1 = (q : Int) ∧ wr.rowIs g 3 (n + 1) (fun j => .int .i64 (B j)) ∧ Hid (Wi.Inv P t.data.toList (Wi.upd B x a) x a q) ∧ Below g w wr) (fun _ _ xv av sv _ => Wi.left n t.size (Lib.intOf xv).toNat (Lib.intOf av).toNat (Lib.intOf sv + 1).toNat)
  case atStart =>
    exact ⟨0, 0, 0, -1, fun _ => 0, rfl, rfl, rfl, rfl, rfl, rfl, hg ▸ World.rowIs_made w (.int .i64 0) (n + 1) 3, Wi.Inv.start _ _ _ (by simp [Wi.upd]), (Below.refl _ _).alloc (by omega) _⟩
  case round =>
    obtain ⟨x, a, q, s, B, rfl, rfl, rfl, rfl, rfl, hsq, hrow, hv, hb⟩ := hrel
    have hx := hv.out.hx
    have ha := hv.out.ha
    have hll : t.data.toList.length = t.size := by simp
    rw [hll] at ha
    rw [hPn] at hx
    have hcx := hrow.cell (i := x) (by omega)
    have hfx := hrow.frozen x
    have hrow1 : Hid ((wr.setCell ⟨g, x, none⟩ (.int .i64 a)).rowIs g 3 (n + 1) (fun j => .int .i64 (Wi.upd B x a j))) := (hrow.set x (.int .i64 a)).congr fun i _ => by
      show (if i = x then Value.int .i64 (a : Int) else Value.int .i64 (B i : Int)) = _
      unfold Wi.upd
      split <;> rfl
    have hb1 := mkH (hb.setCell (p := ⟨g, x, none⟩) (Nat.le_refl _) (.int .i64 a))
    by_cases hxn : x < n
    · obtain ⟨g0, rfl, hg0, c1, c2, c3⟩ := hpc x (by omega)
      have hne : g0 ≠ g := by omega
      have hne' : g ≠ g0 := by omega
      have d1 := (hb1.out.cell (p := ⟨g0, x * 3, none⟩) (by show g0 < g; omega)).trans c1
      have d2 := (hb1.out.cell (p := ⟨g0, x * 3 + 1, none⟩) (by show g0 < g; omega)).trans c2
      have d3 := (hb1.out.cell (p := ⟨g0, x * 3 + 2, none⟩) (by show g0 < g; omega)).trans c3
      clear c1 c2 c3 hpc
      have hxI : Hid (-2 ≤ P[x]'(by omega) ∧ P[x]'(by omega) < 256) := hP _ (List.getElem_mem _)
      by_cases hst : P[x]'(by omega) = -1
      · have hst' : (P[x]'(by omega) == -1) = true := by simpa using hst
        rw [hst'] at d1
        have hnew := mkH (hv.out.onStar (by omega) hst)
        have hlf := mkH (Wi.left_star n t.size x a q hv.out.hq hxn)
        clear hrow d2 d3 hst hst' hxI hP hv hx ha
        have hsq := mkH hsq
        go_wp2
        go_roundw
        case rel => exact ⟨x + 1, a, x + 1, x, _, rfl, rfl, by go_num, rfl, rfl, rfl, hrow1.out, hnew.out, hb1.out⟩
        case measure =>
          have e1 := hsq.out
          rw [show Lib.intOf (.int .i64 s) = s from rfl, e1]
          exact hlf.out
      · have hst' : (P[x]'(by omega) == -1) = false := by simpa using hst
        rw [hst'] at d1
        by_cases ham : a < t.size
        · have hf := fun W => implFits (P[x]'(by omega)) t[a] W hst
          rw [hst'] at hf
          have hok1 := mkH (hv.out.onOne (by omega) hst (by omega))
          have hF1 := mkH (Wi.F_one P t.data.toList x a (by omega) hst (by omega))
          have hga : t.data.toList[a]'(by omega) = t[a] := rfl
          rw [hga] at hok1 hF1
          have hlf := mkH (Wi.left_one n t.size x a q hv.out.hq hxn (by have := hv.out.bq; omega))
          have h8 : t[a].toNat < 256 := UInt8.toNat_lt _
          generalize hWi : Wi.ok (P[x]'(by omega)) t[a] = b at *
          generalize (P[x]'(by omega) == -2) = b2 at *
          generalize pb (P[x]'(by omega)) = y at *
          cases b
          · have hF : Hid (Wi.F P t.data.toList x a = false) := by
              have := hF1.out
              rw [Bool.false_and] at this
              exact this
            clear hrow hok1 hF1 hst hst' hxI hWi hga hlf hll
            have hsq0 := mkH hsq
            clear hsq
            go_wp2
            generalize hW1 : wr.setCell ⟨g, x, none⟩ (.int .i64 a) = W1 at *
            have cF : ∀ d os, Calls Try.prog 19 #[.agg #[.bool false, .bool b2, .int .u8 y], .int .u8 (t[a].toNat : Int)] (Go.Sort.grow (redrawn W1 d) os) fun e w'' => e = .returned (.bool false) ∧ ∃ p : Regrown, w'' = Go.Sort.grow (redrawn W1 p.d) p.os := fun d os => Calls.regrown_of ((hf _).mono fun e w' ⟨he, ob, hw⟩ => ⟨he, by rw [hw]; exact (Below.refl _ _).alloc (Nat.le_refl _) _⟩)
            have k1 := cell_regrown d1
            have k2 := cell_regrown d2
            have k3 := cell_regrown d3
            have HcF := mkH cF
            clear cF hW1 hf
            refine wp_region_quiet_below (by kernel_rfl) (by kernel_rfl) ?_
            iterate 18 (quiet_step (fail))
            quiet_step (exact HcF.out _ _)
            repeat (quiet_step (fail))
            refine wpQuiet_nil ?_
            intro _ hw'
            obtain ⟨⟨dq, osq⟩, hw''⟩ := hw'
            subst hw''
            have hbq2 := below_regrown W1 dq osq
            have hrow2 := mkH (rowIs_keep hrow1.out hbq2)
            have hb2 := mkH (hb1.out.trans (hbq2.mono (by have := hb1.out.size; omega)))
            generalize Go.Sort.grow (redrawn W1 dq) osq = W2 at *
            clear k1 k2 k3 HcF hbq2 d1 d2 d3 hcx hfx hb
            have hsq := hsq0.out
            clear hsq0
            rcases Nat.eq_zero_or_pos q with hq0 | hq0
            · have hs0 : decide (0 ≤ s) = false := by simp; omega
              have hno := mkH (hv.out.none hF.out (.inl hq0))
              clear hsq hq0 hv hF hP
              go_wp2
              go_ret2
              subst hg
              exact ⟨_, rfl, .inl ⟨hno.out, rfl⟩, hb2.out⟩
            · obtain ⟨q', rfl⟩ : ∃ q', q = q' + 1 := ⟨q - 1, by omega⟩
              obtain rfl : s = (q' : Int) := by omega
              have hqx := hv.out.hq
              have hbq := hv.out.bq
              have hcq := hrow2.out.cell (i := q' + 1) (by omega)
              by_cases hbm : Wi.upd B x a (q' + 1) < t.size
              · have hnew := mkH (hv.out.onMore hF.out (by omega) (by simpa using hbm))
                have hlf := mkH (Wi.left_more n t.size x a (q' + 1) hqx hx (by omega))
                rw [show a - (x - (q' + 1)) = Wi.upd B x a (q' + 1) by omega] at hlf
                clear hsq hq0 hv hF hP hbq
                have hnew2 := mkH hnew.out
                clear hnew
                generalize Wi.upd B x a (q' + 1) = y1 at hcq hbm hnew2 hlf
                go_wp2
                go_roundw
                case rel => exact ⟨q' + 1, y1 + 1, q' + 1, q', Wi.upd B x a, rfl, rfl, by go_num, by go_num, rfl, rfl, hrow2.out, hnew2.out, hb2.out⟩
                case measure => exact hlf.out
              · have hno := mkH (hv.out.none hF.out (.inr (by simp; omega)))
                clear hsq hq0 hv hF hP hbq
                generalize Wi.upd B x a (q' + 1) = y1 at hcq hbm
                go_wp2
                go_ret2
                subst hg
                exact ⟨_, rfl, .inl ⟨hno.out, rfl⟩, hb2.out⟩
          · have hnew := mkH (hok1.out rfl)
            clear hrow hok1 hF1 hst hst' hxI hP hv hx hWi hga
            have hsq := mkH hsq
            go_wp2
            generalize hW1 : wr.setCell ⟨g, x, none⟩ (.int .i64 a) = W1 at *
            have cF : ∀ d os, Calls Try.prog 19 #[.agg #[.bool false, .bool b2, .int .u8 y], .int .u8 (t[a].toNat : Int)] (Go.Sort.grow (redrawn W1 d) os) fun e w'' => e = .returned (.bool true) ∧ ∃ p : Regrown, w'' = Go.Sort.grow (redrawn W1 p.d) p.os := fun d os => Calls.regrown_of ((hf _).mono fun e w' ⟨he, ob, hw⟩ => ⟨he, by rw [hw]; exact (Below.refl _ _).alloc (Nat.le_refl _) _⟩)
            have k1 := cell_regrown d1
            have k2 := cell_regrown d2
            have k3 := cell_regrown d3
            have HcF := mkH cF
            clear cF hW1 hf
            refine wp_region_quiet_below (by kernel_rfl) (by kernel_rfl) ?_
            iterate 18 (quiet_step (fail))
            quiet_step (exact HcF.out _ _)
            repeat (quiet_step (fail))
            refine wpQuiet_nil ?_
            intro _ hw'
            obtain ⟨⟨dq, osq⟩, hw''⟩ := hw'
            subst hw''
            have hbq2 := below_regrown W1 dq osq
            have hrow2 := mkH (rowIs_keep hrow1.out hbq2)
            have hb2 := mkH (hb1.out.trans (hbq2.mono (by have := hb1.out.size; omega)))
            generalize Go.Sort.grow (redrawn W1 dq) osq = W2 at *
            clear k1 k2 k3 HcF hbq2 d1 d2 d3 hcx hfx hb
            go_wp2
            go_roundw
            case rel => exact ⟨x + 1, a + 1, q, s, _, rfl, rfl, by go_num, by go_num, rfl, hsq.out, hrow2.out, hnew.out, hb2.out⟩
            case measure =>
              have e1 := hsq.out
              rw [show Lib.intOf (.int .i64 s) = s from rfl, e1]
              exact hlf.out
        · have hF : Hid (Wi.F P t.data.toList x a = false) := Wi.F_one_end P _ x a (by omega) hst (by omega)
          clear hrow hst hst' hxI hll
          have hsq0 := mkH hsq
          clear hsq
          go_wp2
          go_quiet (fail)
          have hbq2 := below_drewN (Below.refl (wr.setCell ⟨g, x, none⟩ (.int .i64 a)).heap.size (wr.setCell ⟨g, x, none⟩ (.int .i64 a))) nq
          have hrow2 := mkH (rowIs_keep hrow1.out hbq2)
          have hb2 := mkH (hb1.out.trans (hbq2.mono (by have := hb1.out.size; omega)))
          generalize (wr.setCell ⟨g, x, none⟩ (.int .i64 a)).drewN nq = W2 at *
          clear hbq2 d1 d2 d3 hcx hfx hb
          have hsq := hsq0.out
          clear hsq0
          rcases Nat.eq_zero_or_pos q with hq0 | hq0
          · have hs0 : decide (0 ≤ s) = false := by simp; omega
            have hno := mkH (hv.out.none hF.out (.inl hq0))
            clear hsq hq0 hv hF hP
            go_wp2
            go_ret2
            subst hg
            exact ⟨_, rfl, .inl ⟨hno.out, rfl⟩, hb2.out⟩
          · obtain ⟨q', rfl⟩ : ∃ q', q = q' + 1 := ⟨q - 1, by omega⟩
            obtain rfl : s = (q' : Int) := by omega
            have hqx := hv.out.hq
            have hbq := hv.out.bq
            have hcq := hrow2.out.cell (i := q' + 1) (by omega)
            by_cases hbm : Wi.upd B x a (q' + 1) < t.size
            · have hnew := mkH (hv.out.onMore hF.out (by omega) (by simpa using hbm))
              have hlf := mkH (Wi.left_more n t.size x a (q' + 1) hqx hx (by omega))
              rw [show a - (x - (q' + 1)) = Wi.upd B x a (q' + 1) by omega] at hlf
              clear hsq hq0 hv hF hP hbq
              have hnew2 := mkH hnew.out
              clear hnew
              generalize Wi.upd B x a (q' + 1) = y1 at hcq hbm hnew2 hlf
              go_wp2
              go_roundw
              case rel => exact ⟨q' + 1, y1 + 1, q' + 1, q', Wi.upd B x a, rfl, rfl, by go_num, by go_num, rfl, rfl, hrow2.out, hnew2.out, hb2.out⟩
              case measure => exact hlf.out
            · have hno := mkH (hv.out.none hF.out (.inr (by simp; omega)))
              clear hsq hq0 hv hF hP hbq
              generalize Wi.upd B x a (q' + 1) = y1 at hcq hbm
              go_wp2
              go_ret2
              subst hg
              exact ⟨_, rfl, .inl ⟨hno.out, rfl⟩, hb2.out⟩
    · by_cases ham : a < t.size
      · have hF : Hid (Wi.F P t.data.toList x a = false) := by
          rw [Wi.F_end P _ x a (by omega)]
          simp [Hid]; omega
        clear hrow hll hpc
        have hsq0 := mkH hsq
        clear hsq
        go_wp2
        go_quiet (fail)
        have hbq2 := below_drewN (Below.refl (wr.setCell ⟨g, x, none⟩ (.int .i64 a)).heap.size (wr.setCell ⟨g, x, none⟩ (.int .i64 a))) nq
        have hrow2 := mkH (rowIs_keep hrow1.out hbq2)
        have hb2 := mkH (hb1.out.trans (hbq2.mono (by have := hb1.out.size; omega)))
        generalize (wr.setCell ⟨g, x, none⟩ (.int .i64 a)).drewN nq = W2 at *
        clear hbq2 hcx hfx hb
        have hsq := hsq0.out
        clear hsq0
        rcases Nat.eq_zero_or_pos q with hq0 | hq0
        · have hs0 : decide (0 ≤ s) = false := by simp; omega
          have hno := mkH (hv.out.none hF.out (.inl hq0))
          clear hsq hq0 hv hF hP
          go_wp2
          go_ret2
          subst hg
          exact ⟨_, rfl, .inl ⟨hno.out, rfl⟩, hb2.out⟩
        · obtain ⟨q', rfl⟩ : ∃ q', q = q' + 1 := ⟨q - 1, by omega⟩
          obtain rfl : s = (q' : Int) := by omega
          have hqx := hv.out.hq
          have hbq := hv.out.bq
          have hcq := hrow2.out.cell (i := q' + 1) (by omega)
          by_cases hbm : Wi.upd B x a (q' + 1) < t.size
          · have hnew := mkH (hv.out.onMore hF.out (by omega) (by simpa using hbm))
            have hlf := mkH (Wi.left_more n t.size x a (q' + 1) hqx hx (by omega))
            rw [show a - (x - (q' + 1)) = Wi.upd B x a (q' + 1) by omega] at hlf
            clear hsq hq0 hv hF hP hbq
            have hnew2 := mkH hnew.out
            clear hnew
            generalize Wi.upd B x a (q' + 1) = y1 at hcq hbm hnew2 hlf
            go_wp2
            go_roundw
            case rel => exact ⟨q' + 1, y1 + 1, q' + 1, q', Wi.upd B x a, rfl, rfl, by go_num, by go_num, rfl, rfl, hrow2.out, hnew2.out, hb2.out⟩
            case measure => exact hlf.out
          · have hno := mkH (hv.out.none hF.out (.inr (by simp; omega)))
            clear hsq hq0 hv hF hP hbq
            generalize Wi.upd B x a (q' + 1) = y1 at hcq hbm
            go_wp2
            go_ret2
            subst hg
            exact ⟨_, rfl, .inl ⟨hno.out, rfl⟩, hb2.out⟩
      · obtain ⟨hdn1, hdn2⟩ := hv.out.done (by omega) (by omega)
        have hfin := mkH (hrow1.out.congr (g := fun j => .int .i64 (Wi.pos P t.data.toList j)) fun i hi => by rw [hdn2 i (by omega)])
        clear hrow hll hpc hv hP hsq hdn2 hrow1
        have hdn1 := mkH hdn1
        go_wp2
        go_ret2
        subst hg
        exact ⟨_, rfl, .inr ⟨hdn1.out, rfl, hfin.out⟩, hb1.out⟩
end Go.Proofs.Ytdlacoakimahkaa
