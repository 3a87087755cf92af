
/- The walk of the law on ReadHead. -/
import Derived.Test.YtoekkjdkjmhmhaaHeadLaw
namespace Go.Proofs.Ytoekkjdkjmhmhaa
open Go.RowKit Go.Lib
theorem rd_len (l : List UInt8) : ∀ (f k : Nat) (fs : List Fl), fs.length ≤ 200 → (Pl.rd l f k fs).fields.length ≤ 200
  | 0, _, _, _ => by simp [Pl.rd]
  | f + 1, k, fs, h => by
    rw [Pl.rd]
    split
    · exact h
    · split
      · exact h
      · split
        · simp
        · rename_i n v x _
          split
          · simp
          · exact rd_len l f x _ (by simp; omega)
def RH (s : ByteArray) : HR := if s.size ≤ 100000 then Pl.readHead s.data.toList else ⟨2, 0, 0, []⟩
theorem RH_len (s : ByteArray) : (RH s).fields.length ≤ 200 := by
  unfold RH
  split
  · exact rd_len _ _ _ _ (by simp)
  · simp
theorem specRH (s : ByteArray) (w : World) (hs : s.size ≤ 1048576) :
    Calls Try.prog 4 #[.string s] w fun e w' => ∃ o c, e = .returned (hdv (RH s) o c) ∧ OwnF w.heap.size (.slice o (RH s).fields.length c) (RH s).fields w' ∧ Below w.heap.size w w' := by
  unfold RH
  split
  · rename_i h
    refine (specReadHead s w h).mono ?_
    rintro e w' ⟨v, rfl, ho, hb⟩
    obtain ⟨o, c, rfl⟩ := ho.shape
    exact ⟨o, c, rfl, ho, hb⟩
  · have hl : decide ((100000 : Int) < (s.size : Int)) = true := by simp; omega
    go_enter Try.func4, Try.ntmps4
    go_wp2
    refine bodyPost_ret (v := .agg #[.int .i64 2, .int .i64 0, .slice none 0 0, .int .i64 0]) (by simp [results, Try.results4, go_sem]) rfl ⟨none, 0, rfl, OwnF.nil _ _, ?_⟩
    exact (Below.refl _ _).alloc (Nat.le_refl _) _
theorem implRH (s : ByteArray) (w : World) (hs : s.size ≤ 1048576) :
    Calls Try.prog 5 #[.string s] w fun e w' => ∃ o c, e = .returned (hdv (RH s) o c) ∧ OwnF w.heap.size (.slice o (RH s).fields.length c) (RH s).fields w' ∧ Below w.heap.size w w' := by
  unfold RH
  split
  · rename_i h
    refine (implReadHead s w h).mono ?_
    rintro e w' ⟨v, rfl, ho, hb⟩
    obtain ⟨o, c, rfl⟩ := ho.shape
    exact ⟨o, c, rfl, ho, hb⟩
  · have hT := fun w => implTooLong s w (by omega)
    simp only [decide_eq_true (show (100000 : Int) < (s.size : Int) by omega)] at hT
    go_enter_defers Try.func5, Try.ntmps5
    go_wp2_with fail
    refine (hT _).mono ?_
    rintro e w1 ⟨rfl, rfl⟩
    go_wp2
    simp [bodyPostD, Leaves, results, Try.results5, go_sem]
    exact ⟨none, 0, ⟨rfl, rfl⟩, OwnF.nil _ _, (Below.refl _ _).alloc (Nat.le_refl _) _⟩
set_option maxHeartbeats 4000000 in
theorem headWalk (a0 : ByteArray) (w0 : a0.size ≤ maxLen) (w : World) :
    Calls Try.prog 3 #[.string a0] w fun e w' => e = .returned (.bool true) ∧ Below w.heap.size w w' := by
  unfold maxLen at w0
  by_cases hbig : 1048576 < a0.size
  · go_enter Try.func3, Try.ntmps3
    go_wp2
    go_ret
    exact ⟨rfl, Below.refl _ _⟩
  have HS := (show Hid _ from fun (w : World) => specRH a0 w (by omega))
  have HI := (show Hid _ from fun (w : World) => implRH a0 w (by omega))
  have hF := RH_len a0
  obtain ⟨R, hR⟩ : ∃ R, RH a0 = R := ⟨_, rfl⟩
  rw [hR] at hF
  simp only [hR] at HS HI
  clear hR
  go_enter Try.func3, Try.ntmps3
  go_wp2_with fail
  refine Calls.mono (HS.out _) ?_
  rintro e w1 ⟨o2, c2, rfl, own2, hb1⟩
  have wle := (show Hid (w.heap.size ≤ w1.heap.size) from hb1.size)
  have hbA : Below w1.heap.size w1 (w1.alloc (hdo R o2 c2)) := (Below.refl _ _).alloc (Nat.le_refl _) _
  have O2 := (show Hid (OwnF w.heap.size (.slice o2 R.fields.length c2) R.fields (w1.alloc (hdo R o2 c2))) from own2.low hbA)
  have A2 := (show Hid ((w1.alloc (hdo R o2 c2)).heap[w1.heap.size]? = some (hdo R o2 c2)) from alloc_last _ _)
  have B2 := (show Hid (Below w.heap.size w (w1.alloc (hdo R o2 c2))) from hb1.trans (hbA.mono hb1.size))
  have sz2 : (w1.alloc (hdo R o2 c2)).heap.size = w1.heap.size + 1 := by simp
  have g2lt := (show Hid (∀ g, (Value.slice o2 R.fields.length c2).ownBlock = some g → g < w1.heap.size) from fun g hg => (World.ownsRow.lt own2 g hg).2)
  clear own2 hb1 hbA
  go_wp2_with fail
  refine Calls.mono (HI.out _) ?_
  rintro e w2 ⟨o1, c1, rfl, own1, hb2⟩
  rw [sz2] at own1 hb2
  have g1ge := (show Hid (∀ g, (Value.slice o1 R.fields.length c1).ownBlock = some g → w1.heap.size + 1 ≤ g ∧ g < w2.heap.size) from fun g hg => World.ownsRow.lt own1 g hg)
  have hb2' : Below (w1.alloc (hdo R o2 c2)).heap.size (w1.alloc (hdo R o2 c2)) w2 := by rw [sz2]; exact hb2
  have hbB : Below w2.heap.size w2 (w2.alloc (hdo R o1 c1)) := (Below.refl _ _).alloc (Nat.le_refl _) _
  have s2 : w1.heap.size + 1 ≤ w2.heap.size := by have := hb2'.size; omega
  have O1 := (show Hid (OwnF (w1.heap.size + 1) (.slice o1 R.fields.length c1) R.fields (w2.alloc (hdo R o1 c1))) from own1.low hbB)
  have P2 := (show Hid (OwnF w.heap.size (.slice o2 R.fields.length c2) R.fields (w2.alloc (hdo R o1 c1))) from (OwnF.low O2.out hb2').low hbB)
  have A3 := (show Hid ((w2.alloc (hdo R o1 c1)).heap[w1.heap.size]? = some (hdo R o2 c2)) from (hbB.block _ (by omega)).trans ((hb2'.block _ (by omega)).trans A2.out))
  have D3 := (show Hid ((w2.alloc (hdo R o1 c1)).heap[w2.heap.size]? = some (hdo R o1 c1)) from alloc_last _ _)
  have B3 := (show Hid (Below w.heap.size w (w2.alloc (hdo R o1 c1))) from (B2.out.trans (hb2'.mono B2.out.size)).trans (hbB.mono (Nat.le_trans B2.out.size hb2'.size)))
  have sz3 : (w2.alloc (hdo R o1 c1)).heap.size = w2.heap.size + 1 := by simp
  clear own1 hb2 hb2' hbB O2 A2 B2
  obtain ⟨⟨q0, q1, q2, q3⟩, -⟩ := res_cells A3.out
  have HEq1 := (show Hid _ from lawEqHead R o1 o2 c1 c2 _ O1.out P2.out hF)
  go_wp2_with fail
  refine Calls.mono HEq1.out ?_
  rintro e w3 ⟨rfl, hb3⟩
  have O3 := (show Hid (OwnF (w1.heap.size + 1) (.slice o1 R.fields.length c1) R.fields w3) from OwnF.low O1.out hb3)
  have P3 := (show Hid (OwnF w.heap.size (.slice o2 R.fields.length c2) R.fields w3) from OwnF.low P2.out hb3)
  have A4 := (show Hid (w3.heap[w1.heap.size]? = some (hdo R o2 c2)) from (hb3.block _ (by omega)).trans A3.out)
  have D4 := (show Hid (w3.heap[w2.heap.size]? = some (hdo R o1 c1)) from (hb3.block _ (by omega)).trans D3.out)
  have B4 := (show Hid (Below w.heap.size w w3) from B3.out.trans (hb3.mono B3.out.size))
  have s3 : w2.heap.size + 1 ≤ w3.heap.size := by have := hb3.size; omega
  clear hb3 O1 P2 A3 D3 B3 HEq1 q0 q1 q2 q3
  obtain ⟨⟨q0, q1, q2, q3⟩, -⟩ := res_cells D4.out
  have HMk := (show Hid _ from lawMarkHead R o1 c1 _ O3.out hF)
  go_wp2_with fail
  refine Calls.mono HMk.out ?_
  rintro e w4 ⟨rfl, mk4, gr4⟩
  have M5 := (show Hid (MarkedV (.slice o1 R.fields.length c1) R.fields.length w4) from mk4)
  have P5 := (show Hid (OwnF w.heap.size (.slice o2 R.fields.length c2) R.fields w4) from OwnF.keep P3.out gr4 (fun g hg e => by have := g2lt.out g hg; have := (g1ge.out g e).1; omega))
  have A5 := (show Hid (w4.heap[w1.heap.size]? = some (hdo R o2 c2)) from (gr4.block _ (by omega) (fun e => by have := (g1ge.out _ e.symm).1; omega)).trans A4.out)
  have D5 := (show Hid (w4.heap[w2.heap.size]? = some (hdo R o1 c1)) from (gr4.block _ (by omega) (fun e => by have := (g1ge.out _ e.symm).2; omega)).trans D4.out)
  have s4 : w2.heap.size + 1 ≤ w4.heap.size := by have := gr4.size; omega
  have B5 := (show Hid (Below w.heap.size w w4) from B4.out.trans ⟨gr4.os, gr4.tape, gr4.output, gr4.size, fun k hk => gr4.block k (by have := B4.out.size; omega) (fun e => by have := (g1ge.out _ e.symm).1; have := wle.out; omega)⟩)
  clear mk4 gr4 O3 P3 A4 D4 B4 HMk q0 q1 q2 q3
  obtain ⟨⟨q0, q1, q2, q3⟩, -⟩ := res_cells D5.out
  have HHd := (show Hid _ from lawHeldHead R o1 c1 _ M5.out hF)
  go_wp2_with fail
  refine Calls.mono HHd.out ?_
  rintro e w5 ⟨rfl, hb5⟩
  have M6 := (show Hid (MarkedV (.slice o1 R.fields.length c1) R.fields.length w5) from MarkedV.below M5.out hb5)
  have P6 := (show Hid (OwnF w.heap.size (.slice o2 R.fields.length c2) R.fields w5) from OwnF.low P5.out hb5)
  have A6 := (show Hid (w5.heap[w1.heap.size]? = some (hdo R o2 c2)) from (hb5.block _ (by omega)).trans A5.out)
  have D6 := (show Hid (w5.heap[w2.heap.size]? = some (hdo R o1 c1)) from (hb5.block _ (by omega)).trans D5.out)
  have B6 := (show Hid (Below w.heap.size w w5) from B5.out.trans (hb5.mono B5.out.size))
  have s5 : w2.heap.size + 1 ≤ w5.heap.size := by have := hb5.size; omega
  clear hb5 M5 P5 A5 D5 B5 HHd q0 q1 q2 q3
  go_wp2_with fail
  refine Calls.mono (HI.out _) ?_
  rintro e w6 ⟨o3, c3, rfl, own3, hb6⟩
  have hbC : Below w6.heap.size w6 (w6.alloc (hdo R o3 c3)) := (Below.refl _ _).alloc (Nat.le_refl _) _
  have s6 : w5.heap.size ≤ w6.heap.size := hb6.size
  have O7 := (show Hid (OwnF w5.heap.size (.slice o3 R.fields.length c3) R.fields (w6.alloc (hdo R o3 c3))) from own3.low hbC)
  have M7 := (show Hid (MarkedV (.slice o1 R.fields.length c1) R.fields.length (w6.alloc (hdo R o3 c3))) from MarkedV.below (MarkedV.below M6.out hb6) hbC)
  have P7 := (show Hid (OwnF w.heap.size (.slice o2 R.fields.length c2) R.fields (w6.alloc (hdo R o3 c3))) from OwnF.low (OwnF.low P6.out hb6) hbC)
  have A7 := (show Hid ((w6.alloc (hdo R o3 c3)).heap[w1.heap.size]? = some (hdo R o2 c2)) from (hbC.block _ (by omega)).trans ((hb6.block _ (by omega)).trans A6.out))
  have D7 := (show Hid ((w6.alloc (hdo R o3 c3)).heap[w2.heap.size]? = some (hdo R o1 c1)) from (hbC.block _ (by omega)).trans ((hb6.block _ (by omega)).trans D6.out))
  have B7 := (show Hid (Below w.heap.size w (w6.alloc (hdo R o3 c3))) from (B6.out.trans (hb6.mono B6.out.size)).trans (hbC.mono (Nat.le_trans B6.out.size hb6.size)))
  have sz7 : (w6.alloc (hdo R o3 c3)).heap.size = w6.heap.size + 1 := by simp
  clear own3 hb6 hbC M6 P6 A6 D6 B6
  obtain ⟨⟨q0, q1, q2, q3⟩, -⟩ := res_cells A7.out
  have HEq2 := (show Hid _ from lawEqHead R o3 o2 c3 c2 _ O7.out P7.out hF)
  go_wp2_with fail
  refine Calls.mono HEq2.out ?_
  rintro e w7 ⟨rfl, hb7⟩
  have M8 := (show Hid (MarkedV (.slice o1 R.fields.length c1) R.fields.length w7) from MarkedV.below M7.out hb7)
  have D8 := (show Hid (w7.heap[w2.heap.size]? = some (hdo R o1 c1)) from (hb7.block _ (by omega)).trans D7.out)
  have B8 := (show Hid (Below w.heap.size w w7) from B7.out.trans (hb7.mono B7.out.size))
  clear hb7 O7 M7 P7 A7 D7 B7 HEq2 q0 q1 q2 q3
  obtain ⟨⟨q0, q1, q2, q3⟩, -⟩ := res_cells D8.out
  have HHd := (show Hid _ from lawHeldHead R o1 c1 _ M8.out hF)
  go_wp2_with fail
  refine Calls.mono HHd.out ?_
  rintro e w8 ⟨rfl, hb8⟩
  have B9 := (show Hid (Below w.heap.size w w8) from B8.out.trans (hb8.mono B8.out.size))
  clear hb8
  go_wp2
  go_ret
  exact ⟨rfl, B9.out⟩
end Go.Proofs.Ytoekkjdkjmhmhaa
