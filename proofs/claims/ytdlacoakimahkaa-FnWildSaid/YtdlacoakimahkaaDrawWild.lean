import Derived.Test.YtdlacoakimahkaaWildSpoil
namespace Go.Proofs.Ytdlacoakimahkaa
open Go.RowKit Go.Lib
def posOf (g : Nat) (w : World) : Nat := match w.cell? ⟨g, 1, none⟩ with | some (.int _ a) => a.toNat | _ => 0
theorem Src.pos {w : World} {g n cp a z : Nat} {o : Option Addr} (h : Src w g o n cp a z) : posOf g w = a := by
  unfold posOf
  rw [h.c1]
  simp
def strLenW : Value → Nat
  | .string b => b.size
  | _ => 0
theorem Code.below' {B : Nat} {w w' : World} {o : Option Addr} {c : List UInt8} (h : Code B w o c) (hb : Below B w w') : Code B w' o c := by
  intro k hk
  obtain ⟨a, rfl, ha, hc⟩ := h k hk
  exact ⟨a, rfl, ha, (hb.cell (by rw [addr_block]; exact ha)).trans hc⟩
theorem gr_new' {w w1 w' : World} (hb : Below w.heap.size w w1) (hg : w1.grownBy w' (some w.heap.size)) : Below w.heap.size w w' :=
  ⟨hg.os.trans hb.os, hg.tape.trans hb.tape, hg.output.trans hb.output, Nat.le_trans hb.size hg.size, fun i hi => (hg.block i (by have := hb.size; omega) (by intro e; have := Option.some.inj e; omega)).trans (hb.block i hi)⟩
theorem nv6 (c : List UInt8) (a : Nat) : Wi.nv c a 6 < 6 := by
  unfold Wi.nv
  split <;> exact Nat.mod_lt _ (by decide)
set_option maxRecDepth 20000 in
set_option maxHeartbeats 8000000 in
theorem drawWild (o : Option Addr) (c : List UInt8) (cp : Nat) (w : World) (hc : Code w.heap.size w o c) (hl : c.length ≤ 1048576) :
    Calls Try.prog 4 #[.slice o c.length cp] w fun e w' => ∃ p t : ByteArray, e = .returned (.tuple #[.string p, .string t]) ∧ p.size ≤ 1000000300 ∧ t.size ≤ 33 ∧ Below w.heap.size w w' := by
  obtain ⟨g, hgw⟩ : ∃ g, w.heap.size = g := ⟨_, rfl⟩
  have HC0 : Hid (Code g w o c) := by rw [← hgw]; exact hc
  have hS := srcNew o c.length cp w hl
  rw [hgw] at hS
  have HG : Hid (w.heap.size = g) := hgw
  clear hc
  go_enter Try.func4, Try.ntmps4
  go_wp2_with fail
  refine hS.mono ?_
  rintro e w0 ⟨z, rfl, hz, hs, hb0⟩
  have HC : Hid (Code g w0 o c) := HC0.out.below' hb0
  have HB0 : Hid (Below g w w0) := hb0
  have hN := srcN g o c cp 0 z 12 w0 hs HC.out (by omega) hl (by omega) (by omega)
  clear hS hs hb0 HC0 hgw
  go_wp2_with fail
  refine hN.mono ?_
  rintro e w1 ⟨v1, rfl, hv1, hs1, hg1⟩
  have hB := srcBytes g o c cp (0 + 1) z v1 w1 hs1 (HC.out.grown hg1 (Nat.le_refl _)) (by omega) hl (by omega)
  clear hN hs1
  go_wp2_with fail
  refine hB.mono ?_
  rintro e w2 ⟨t, a0, rfl, htz, ha0, hs2, hg2⟩
  have Hs2 := mkH hs2
  have Hg2 := mkH (gr_trans hg1 hg2)
  clear hB hg1 hg2 hs2
  have htz : t.size ≤ 33 := by omega
  have ha0 : a0 ≤ 30 := by omega
  have hmore := Wi.more_le c t.size a0 hl (by omega)
  obtain ⟨A, hA⟩ : ∃ A, A = a0 + 2 * Wi.more c t.size 0 a0 := ⟨_, rfl⟩
  have hAle : A ≤ 90000100 := by omega
  replace hA := mkH hA
  clear hmore hv1
  go_wp2
  go_loopw [6, 7] (fun pv iv wr => ∃ (q : ByteArray) (i a : Nat), pv = .string q ∧ iv = .int .i64 i ∧ i ≤ 40 ∧ a ≤ A ∧ q.size ≤ 2 * a ∧ Hid (a + 2 * Wi.more c t.size i a ≤ A) ∧ Hid (Src wr g o c.length cp a z) ∧ Hid (w0.grownBy wr (some g))) (fun _ iv wr => Wi.more c t.size (Lib.intOf iv).toNat (posOf g wr))
  case atStart => exact ⟨⟨#[]⟩, 0, a0, rfl, rfl, by omega, by have := hA.out; omega, Nat.zero_le _, by show _ ≤ _; have := hA.out; omega, Hs2, Hg2⟩
  case round =>
    clear Hs2 Hg2
    obtain ⟨q, i, a, rfl, rfl, hi40, haA, hqa, Hmo, Hs, Hg⟩ := hrel
    have Hpos := mkH Hs.out.pos
    by_cases hit : i < t.size
    · have hV := srcNV g o c cp a z 6 wr Hs.out (HC.out.grown Hg.out (Nat.le_refl _)) (by omega) hl (by omega) (by omega)
      rw [show ((6 : Nat) : Int) = 6 from rfl] at hV
      have hn6 := nv6 c a
      have Hst := mkH (Wi.more_stay c t.size i a)
      have Hon := mkH (fun i' a' => Wi.more_on c t.size i a i' a' hit)
      generalize Wi.nv c a 6 = v at *
      have hxs : (t.extract i (i + 1)).size = 1 := by rw [ByteArray.size_extract]; omega
      by_cases h0 : v = 0
      · have e0 : ((v : Int) == 0) = true := by rw [h0]; rfl
        have Hst0 := mkH (Hst.out h0)
        clear h0 Hst
        go_wp2_with fail
        refine hV.mono ?_
        rintro e w3 ⟨rfl, hs3, hg3⟩
        have Hs3 := mkH hs3
        have Hg3 := mkH (gr_trans Hg.out hg3)
        clear hV hs3 hg3
        have hN4 := srcN g o c cp (a + 1) z 4 w3 Hs3.out (HC.out.grown Hg3.out (Nat.le_refl _)) (by omega) hl (by omega) (by omega)
        go_wp2_with fail
        refine hN4.mono ?_
        rintro e w4 ⟨v4, rfl, hv4, hs4, hg4⟩
        have Hs4 := mkH hs4
        have Hg4 := mkH (gr_trans Hg3.out hg4)
        clear hN4 hs4 hg4
        have Hm4 : Hid (Wi.more c t.size (i + v4) (a + 1 + 1) + 1 ≤ Wi.more c t.size i a) := by
          by_cases h4 : v4 = 0
          · subst h4; exact Nat.le_of_eq Hst0.out
          · exact Hon.out _ _ (by omega)
        clear Hst0 Hon
        go_wp2
        go_roundw
        case rel => exact ⟨q ++ ⟨#[42]⟩, i + v4, a + 1 + 1, rfl, by go_num, by omega, by have := Hmo.out; have := Hm4.out; omega, by rw [ByteArray.size_append]; show _ + 1 ≤ _; omega, by show _ ≤ _; have := Hmo.out; have := Hm4.out; omega, Hs4, Hg4⟩
        case measure =>
          rw [Hpos.out, Hs4.out.pos]
          have := Hm4.out
          simp only [Lib.intOf]
          rw [show ((i : Int) + (v4 : Int)).toNat = i + v4 by omega]
          simp
          omega
      · have e0 : ((v : Int) == 0) = false := beq_eq_false_iff_ne.2 (by omega)
        have Hm1 := mkH (Hon.out (i + 1) (a + 1) (by omega))
        clear Hst Hon
        by_cases h1 : v = 1
        · have e1 : ((v : Int) == 1) = true := by rw [h1]; rfl
          clear h1 h0
          go_wp2_with fail
          refine hV.mono ?_
          rintro e w3 ⟨rfl, hs3, hg3⟩
          have Hs3 := mkH hs3
          have Hg3 := mkH (gr_trans Hg.out hg3)
          clear hV hs3 hg3
          go_wp2
          go_roundw
          case rel => exact ⟨q ++ ⟨#[63]⟩, i + 1, a + 1, rfl, by go_num, by omega, by have := Hmo.out; have := Hm1.out; omega, by rw [ByteArray.size_append]; show _ + 1 ≤ _; omega, by show _ ≤ _; have := Hmo.out; have := Hm1.out; omega, Hs3, Hg3⟩
          case measure =>
            rw [Hpos.out, Hs3.out.pos]
            have := Hm1.out
            simp only [Lib.intOf]
            rw [show ((i : Int) + 1).toNat = i + 1 by omega]
            simp
            omega
        · have e1 : ((v : Int) == 1) = false := beq_eq_false_iff_ne.2 (by omega)
          by_cases h2 : v = 2
          · have e2 : ((v : Int) == 2) = true := by rw [h2]; rfl
            clear h1 h0 h2
            go_wp2_with fail
            refine hV.mono ?_
            rintro e w3 ⟨rfl, hs3, hg3⟩
            have Hs3 := mkH hs3
            have Hg3 := mkH (gr_trans Hg.out hg3)
            clear hV hs3 hg3
            go_wp2
            go_roundw
            case rel => exact ⟨q ++ ⟨#[92]⟩ ++ t.extract i (i + 1), i + 1, a + 1, rfl, by go_num, by omega, by have := Hmo.out; have := Hm1.out; omega, by rw [ByteArray.size_append, ByteArray.size_append, hxs]; show _ + 1 + 1 ≤ _; omega, by show _ ≤ _; have := Hmo.out; have := Hm1.out; omega, Hs3, Hg3⟩
            case measure =>
              rw [Hpos.out, Hs3.out.pos]
              have := Hm1.out
              simp only [Lib.intOf]
              rw [show ((i : Int) + 1).toNat = i + 1 by omega]
              simp
              omega
          · have e2 : ((v : Int) == 2) = false := beq_eq_false_iff_ne.2 (by omega)
            clear h1 h0 h2
            go_wp2_with fail
            refine hV.mono ?_
            rintro e w3 ⟨rfl, hs3, hg3⟩
            have Hs3 := mkH hs3
            have Hg3 := mkH (gr_trans Hg.out hg3)
            clear hV hs3 hg3
            go_wp2
            go_roundw
            case rel => exact ⟨q ++ t.extract i (i + 1), i + 1, a + 1, rfl, by go_num, by omega, by have := Hmo.out; have := Hm1.out; omega, by rw [ByteArray.size_append, hxs]; omega, by show _ ≤ _; have := Hmo.out; have := Hm1.out; omega, Hs3, Hg3⟩
            case measure =>
              rw [Hpos.out, Hs3.out.pos]
              have := Hm1.out
              simp only [Lib.intOf]
              rw [show ((i : Int) + 1).toNat = i + 1 by omega]
              simp
              omega
    · have hO := srcOne g o c cp a z 5 wr Hs.out (HC.out.grown Hg.out (Nat.le_refl _)) (by omega) hl (by omega) (by omega)
      clear Hmo Hpos
      go_wp2_with fail
      refine hO.mono ?_
      rintro e w4 ⟨b4, rfl, hs4, hg4⟩
      have Hs4 := mkH hs4
      have Hg4 := mkH (gr_trans Hg.out hg4)
      clear hO hs4 hg4 Hs Hg
      cases b4
      · have hO2 := srcOne g o c cp (a + 1) z 30 w4 Hs4.out (HC.out.grown Hg4.out (Nat.le_refl _)) (by omega) hl (by omega) (by omega)
        go_wp2_with fail
        refine hO2.mono ?_
        rintro e w6 ⟨b6, rfl, hs6, hg6⟩
        have Hs6 := mkH hs6
        have Hg6 := mkH (gr_trans Hg4.out hg6)
        clear hO2 hs6 hg6
        cases b6
        · have hfin : Below w.heap.size w w6 := by rw [HG.out]; have := gr_new' (w := w) (w1 := w0) (w' := w6) (by rw [HG.out]; exact HB0.out) (by rw [HG.out]; exact Hg6.out); rwa [HG.out] at this
          go_wp2
          go_ret2
          exact ⟨_, _, rfl, by omega, by omega, hfin⟩
        · go_wp2
          go_loopw [6] (fun pv wr => ∃ q3 : ByteArray, pv = .string q3 ∧ q3.size ≤ 1000000300 ∧ wr = w6) (fun pv _ => 210 - strLenW pv)
          case atStart => exact ⟨_, rfl, by omega, rfl⟩
          case round =>
            obtain ⟨q3, rfl, hq3, hWr⟩ := hrel
            have hWr' : wr = w6 := hWr
            clear hWr
            subst hWr'
            by_cases h205 : q3.size < 205
            · have h205' : decide ((q3.size : Int) < 205) = true := by simp; omega
              go_wp2
              go_roundw
              case rel => exact ⟨_, rfl, by rw [ByteArray.size_append]; show _ + 2 ≤ _; omega, trivial⟩
              case measure => show 210 - (q3 ++ _).size < 210 - q3.size; rw [ByteArray.size_append]; show 210 - (_ + 2) < _; omega
            · have h205' : decide ((q3.size : Int) < 205) = false := by simp; omega
              have hN7 := srcN g o c cp ((a + 1) + 1) z 4 wr Hs6.out (HC.out.grown Hg6.out (Nat.le_refl _)) (by omega) hl (by omega) (by omega)
              go_wp2_with fail
              refine hN7.mono ?_
              rintro e w7 ⟨v7, rfl, hv7, hs7, hg7⟩
              have Hg7 := mkH (gr_trans Hg6.out hg7)
              clear hN7 hs7 hg7
              have hfin : Below w.heap.size w w7 := by rw [HG.out]; have := gr_new' (w := w) (w1 := w0) (w' := w7) (by rw [HG.out]; exact HB0.out) (by rw [HG.out]; exact Hg7.out); rwa [HG.out] at this
              have hI7 : (199 : Int) + (v7 : Int) ≤ (q3.size : Int) := by omega
              go_wp2
              go_ret2
              refine ⟨_, _, rfl, ?_, by omega, hfin⟩
              rw [ByteArray.size_extract]
              omega
      · have hSp := srcSpoil g o c cp (a + 1) z q w4 Hs4.out (HC.out.grown Hg4.out (Nat.le_refl _)) (by omega) hl (by omega)
        go_wp2_with fail
        refine hSp.mono ?_
        rintro e w5 ⟨q2, a5, rfl, hq2, ha5, hs5, hg5⟩
        have Hs5 := mkH hs5
        have Hg5 := mkH (gr_trans Hg4.out hg5)
        clear hSp hs5 hg5 Hs4 Hg4
        have hO2 := srcOne g o c cp a5 z 30 w5 Hs5.out (HC.out.grown Hg5.out (Nat.le_refl _)) (by omega) hl (by omega) (by omega)
        go_wp2_with fail
        refine hO2.mono ?_
        rintro e w6 ⟨b6, rfl, hs6, hg6⟩
        have Hs6 := mkH hs6
        have Hg6 := mkH (gr_trans Hg5.out hg6)
        clear hO2 hs6 hg6
        cases b6
        · have hfin : Below w.heap.size w w6 := by rw [HG.out]; have := gr_new' (w := w) (w1 := w0) (w' := w6) (by rw [HG.out]; exact HB0.out) (by rw [HG.out]; exact Hg6.out); rwa [HG.out] at this
          go_wp2
          go_ret2
          exact ⟨_, _, rfl, by omega, by omega, hfin⟩
        · go_wp2
          go_loopw [6] (fun pv wr => ∃ q3 : ByteArray, pv = .string q3 ∧ q3.size ≤ 1000000300 ∧ wr = w6) (fun pv _ => 210 - strLenW pv)
          case atStart => exact ⟨_, rfl, by omega, rfl⟩
          case round =>
            obtain ⟨q3, rfl, hq3, hWr⟩ := hrel
            have hWr' : wr = w6 := hWr
            clear hWr
            subst hWr'
            by_cases h205 : q3.size < 205
            · have h205' : decide ((q3.size : Int) < 205) = true := by simp; omega
              go_wp2
              go_roundw
              case rel => exact ⟨_, rfl, by rw [ByteArray.size_append]; show _ + 2 ≤ _; omega, trivial⟩
              case measure => show 210 - (q3 ++ _).size < 210 - q3.size; rw [ByteArray.size_append]; show 210 - (_ + 2) < _; omega
            · have h205' : decide ((q3.size : Int) < 205) = false := by simp; omega
              have hN7 := srcN g o c cp (a5 + 1) z 4 wr Hs6.out (HC.out.grown Hg6.out (Nat.le_refl _)) (by omega) hl (by omega) (by omega)
              go_wp2_with fail
              refine hN7.mono ?_
              rintro e w7 ⟨v7, rfl, hv7, hs7, hg7⟩
              have Hg7 := mkH (gr_trans Hg6.out hg7)
              clear hN7 hs7 hg7
              have hfin : Below w.heap.size w w7 := by rw [HG.out]; have := gr_new' (w := w) (w1 := w0) (w' := w7) (by rw [HG.out]; exact HB0.out) (by rw [HG.out]; exact Hg7.out); rwa [HG.out] at this
              have hI7 : (199 : Int) + (v7 : Int) ≤ (q3.size : Int) := by omega
              go_wp2
              go_ret2
              refine ⟨_, _, rfl, ?_, by omega, hfin⟩
              rw [ByteArray.size_extract]
              omega
end Go.Proofs.Ytdlacoakimahkaa
