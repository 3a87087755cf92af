
/- The program's QueueFault. (By tools/gen/implqueue.py.) -/
import Derived.Test.YteiokojdbblcdaaDoorImplQueue2
namespace Go.Proofs.YteiokojdbblcdaaDoor
open Go.RowKit Go.Lib Go.Maps
set_option maxHeartbeats 1000000 in
theorem implLocalDomain (d : ByteArray) (mx : Int) (w : World) (hs : d.size ≤ 1048576) (hm : w.cell? ⟨0, 0, none⟩ = some (.int .i64 mx)) :
    Calls Tryd.prog 30 #[.string d] w fun e w' => e = .returned (.bool (Ky.dok d && ((Ky.low d).toList == d.toList))) ∧ Below w.heap.size w w' := by
  have hD := mkHid (implDomainName d mx w (by omega) hm)
  clear hm
  cases x1 : Ky.dok d
  · rw [x1] at hD
    go_enter Tryd.func30, Tryd.ntmps30
    go_wp2_with fail
    refine hD.out.mono ?_
    rintro e w2 ⟨rfl, hb2⟩
    go_wp2
    go_ret
    exact ⟨rfl, hb2⟩
  · rw [x1] at hD
    have hds := Ky.dok_size d x1
    have hL := mkHid (fun w => implLowered d w (by omega))
    rw [show (ByteArray.mk (lower d.data.toList).toArray) = Ky.low d from rfl] at hL
    generalize Ky.low d = lo at *
    clear x1 hds
    go_enter Tryd.func30, Tryd.ntmps30
    go_wp2_with fail
    refine hD.out.mono ?_
    rintro e w2 ⟨rfl, hb2⟩
    go_wp2_with fail
    refine (hL.out _).mono ?_
    rintro e w3 ⟨rfl, hb3⟩
    go_wp2
    go_ret
    exact ⟨by simp, hb2.trans (hb3.mono hb2.size)⟩
abbrev bxQ (n : GQueueConfig) (v1 v2 v3 : Value) : Obj := .cells #[.string n.locF, v1, v2, v3, .int .i64 n.maxAge] 32
theorem boxQ_cells (n : GQueueConfig) (v1 v2 v3 : Value) (w w2 : World) (hb : Below (w.alloc (bxQ n v1 v2 v3)).heap.size (w.alloc (bxQ n v1 v2 v3)) w2) :
    w2.cell? ⟨w.heap.size, 1, none⟩ = some v1 ∧ w2.cell? ⟨w.heap.size, 2, none⟩ = some v2 ∧ w2.cell? ⟨w.heap.size, 3, none⟩ = some v3 ∧ w2.cell? ⟨w.heap.size, 4, none⟩ = some (.int .i64 n.maxAge) := by
  refine ⟨(hb.cell (p := ⟨w.heap.size, 1, none⟩) (by simp)).trans ?_, (hb.cell (p := ⟨w.heap.size, 2, none⟩) (by simp)).trans ?_, (hb.cell (p := ⟨w.heap.size, 3, none⟩) (by simp)).trans ?_, (hb.cell (p := ⟨w.heap.size, 4, none⟩) (by simp)).trans ?_⟩ <;> simp
/-- The parts in the program's order. -/
def Ky.qimp (n : GQueueConfig) : Bool := (Ky.dok n.locF && Ky.t2 n) && (Ky.asok n.aliases && (Ky.t4 n && (n.mx.all Ky.mok && ((Ky.t5 n && Ky.t6 n) && (n.delays.all Ky.lok && (Ky.t7 n && Ky.t8 n))))))
theorem Ky.qimp_eq (n : GQueueConfig) : Ky.qimp n = Ky.qok n := by
  unfold Ky.qimp Ky.qok
  cases Ky.dok n.locF <;> cases Ky.t2 n <;> cases Ky.asok n.aliases <;> cases Ky.t4 n <;> cases n.mx.all Ky.mok <;> cases Ky.t5 n <;> cases Ky.t6 n <;> cases n.delays.all Ky.lok <;> cases Ky.t7 n <;> cases Ky.t8 n <;> rfl
set_option maxHeartbeats 8000000 in
set_option maxRecDepth 20000 in
theorem implQueueConfig (n : GQueueConfig) (v1 v2 v3 : Value) (lo : Nat) (mx : Int) (w : World) (hI : GQueueConfigIn lo w.heap.size w n v1 v2 v3) (hf : n.fits 1048576) (hm : w.cell? ⟨0, 0, none⟩ = some (.int .i64 mx)) :
    Calls Tryd.prog 19 #[GQueueConfigV n v1 v2 v3] w fun e w' => e = .returned (.bool (Ky.qok n)) ∧ Below w.heap.size w w' := by
  rw [← Ky.qimp_eq]
  obtain ⟨⟨a1, e1, rfl, s1⟩, ⟨a2, e2, rfl, s2⟩, ⟨a3, e3, rfl, s3⟩⟩ := hI
  obtain ⟨f0, f1, f1b, f2, f2b, f3⟩ := hf
  have hlt := bcell_lt hm
  obtain ⟨V, hV⟩ : ∃ V, w.alloc (bxQ n (.slice a1 n.aliases.length e1) (.slice a2 n.mx.length e2) (.slice a3 n.delays.length e3)) = V := ⟨_, rfl⟩
  have hbV : Below w.heap.size w V := by rw [← hV]; exact (Below.refl _ _).alloc (Nat.le_refl _) _
  have hmV : V.cell? ⟨0, 0, none⟩ = some (.int .i64 mx) := (hbV.cell hlt).trans hm
  have q1 := mkHid (implLocalDomain n.locF mx V f0 hmV)
  have S1 := mkHid s1
  have S2 := mkHid s2
  have S3 := mkHid s3
  have Hm := mkHid hm
  have HC := mkHid (fun (W : World) (hb : Below V.heap.size V W) => boxQ_cells n (.slice a1 n.aliases.length e1) (.slice a2 n.mx.length e2) (.slice a3 n.delays.length e3) w W (by rw [hV]; exact hb))
  have q2 := mkHid (fun (W : World) (hb : Below w.heap.size w W) => implAreAliases a1 n.aliases e1 lo mx W ((S1.out.below hb (Nat.le_refl _)).mono (Nat.le_refl _) hb.size) f1 f1b ((hb.cell hlt).trans Hm.out))
  have q3 := mkHid (fun (W : World) (hb : Below w.heap.size w W) => implContainsQM a2 n.mx e2 lo mx W ((S2.out.below hb (Nat.le_refl _)).mono (Nat.le_refl _) hb.size) f2 f2b ((hb.cell hlt).trans Hm.out))
  have q4 := mkHid (fun (W : World) => implFromToQ (n.delays.length : Int) 1 20 W)
  have q5 := mkHid (fun (W : World) (hb : Below w.heap.size w W) => implContainsQI a3 n.delays e3 lo mx W ((S3.out.below hb (Nat.le_refl _)).mono (Nat.le_refl _) hb.size) f3 ((hb.cell hlt).trans Hm.out))
  have q6 := mkHid (fun (W : World) => implIsTimeQ n.maxAge W)
  have h56 : (decide ((1 : Int) ≤ (n.delays.length : Int)) && decide ((n.delays.length : Int) ≤ 20)) = (Ky.t5 n && Ky.t6 n) := by
    unfold Ky.t5 Ky.t6
    congr 1 <;> (apply decide_eq_decide.2; omega)
  have h78 : (decide ((0 : Int) ≤ n.maxAge) && decide (n.maxAge ≤ 253402300799)) = (Ky.t7 n && Ky.t8 n) := rfl
  have h4 : decide ((n.mx.length : Int) ≤ 100) = Ky.t4 n := by
    unfold Ky.t4
    apply decide_eq_decide.2
    omega
  rw [h56] at q4
  rw [h78] at q6
  rw [show ((Ky.low n.locF).toList == n.locF.toList) = Ky.t2 n from rfl] at q1
  clear hm hmV s1 s2 s3 f1b f2b h56 h78
  unfold GQueueConfigV Ky.qimp
  have HV := mkHid hV
  have HbV := mkHid hbV
  clear hV hbV
  generalize (Ky.dok n.locF && Ky.t2 n) = b1 at *
  generalize Ky.asok n.aliases = b2 at *
  generalize Ky.t4 n = b3 at *
  generalize n.mx.all Ky.mok = b4 at *
  generalize (Ky.t5 n && Ky.t6 n) = b5 at *
  generalize n.delays.all Ky.lok = b6 at *
  generalize (Ky.t7 n && Ky.t8 n) = b7 at *
  cases b1
  · go_enter Tryd.func19, Tryd.ntmps19
    go_wp2_with fail
    rw [HV.out]
    refine q1.out.mono ?_
    rintro e w1 ⟨rfl, hb1⟩
    have B1 := mkHid hb1
    have D1 := mkHid (HbV.out.trans (hb1.mono HbV.out.size))
    clear hb1
    go_wp2
    go_ret
    exact ⟨by simp, D1.out⟩
  cases b2
  · go_enter Tryd.func19, Tryd.ntmps19
    go_wp2_with fail
    rw [HV.out]
    refine q1.out.mono ?_
    rintro e w1 ⟨rfl, hb1⟩
    have B1 := mkHid hb1
    have D1 := mkHid (HbV.out.trans (hb1.mono HbV.out.size))
    clear hb1
    obtain ⟨c1, c2, c3, c4⟩ := HC.out w1 B1.out
    go_wp2_with fail
    refine (q2.out _ D1.out).mono ?_
    rintro e w2 ⟨rfl, hb2⟩
    have B2 := mkHid (B1.out.trans (hb2.mono B1.out.size))
    have D2 := mkHid (D1.out.trans (hb2.mono D1.out.size))
    clear hb2 c1 c2 c3 c4
    go_wp2
    go_ret
    exact ⟨by simp, D2.out⟩
  cases b3
  · go_enter Tryd.func19, Tryd.ntmps19
    go_wp2_with fail
    rw [HV.out]
    refine q1.out.mono ?_
    rintro e w1 ⟨rfl, hb1⟩
    have B1 := mkHid hb1
    have D1 := mkHid (HbV.out.trans (hb1.mono HbV.out.size))
    clear hb1
    obtain ⟨c1, c2, c3, c4⟩ := HC.out w1 B1.out
    go_wp2_with fail
    refine (q2.out _ D1.out).mono ?_
    rintro e w2 ⟨rfl, hb2⟩
    have B2 := mkHid (B1.out.trans (hb2.mono B1.out.size))
    have D2 := mkHid (D1.out.trans (hb2.mono D1.out.size))
    clear hb2 c1 c2 c3 c4
    obtain ⟨c1, c2, c3, c4⟩ := HC.out w2 B2.out
    go_wp2
    go_ret
    exact ⟨by simp, D2.out⟩
  cases b4
  · go_enter Tryd.func19, Tryd.ntmps19
    go_wp2_with fail
    rw [HV.out]
    refine q1.out.mono ?_
    rintro e w1 ⟨rfl, hb1⟩
    have B1 := mkHid hb1
    have D1 := mkHid (HbV.out.trans (hb1.mono HbV.out.size))
    clear hb1
    obtain ⟨c1, c2, c3, c4⟩ := HC.out w1 B1.out
    go_wp2_with fail
    refine (q2.out _ D1.out).mono ?_
    rintro e w2 ⟨rfl, hb2⟩
    have B2 := mkHid (B1.out.trans (hb2.mono B1.out.size))
    have D2 := mkHid (D1.out.trans (hb2.mono D1.out.size))
    clear hb2 c1 c2 c3 c4
    obtain ⟨c1, c2, c3, c4⟩ := HC.out w2 B2.out
    go_wp2_with fail
    refine (q3.out _ D2.out).mono ?_
    rintro e w3 ⟨rfl, hb3⟩
    have B3 := mkHid (B2.out.trans (hb3.mono B2.out.size))
    have D3 := mkHid (D2.out.trans (hb3.mono D2.out.size))
    clear hb3 c1 c2 c3 c4
    go_wp2
    go_ret
    exact ⟨by simp, D3.out⟩
  cases b5
  · go_enter Tryd.func19, Tryd.ntmps19
    go_wp2_with fail
    rw [HV.out]
    refine q1.out.mono ?_
    rintro e w1 ⟨rfl, hb1⟩
    have B1 := mkHid hb1
    have D1 := mkHid (HbV.out.trans (hb1.mono HbV.out.size))
    clear hb1
    obtain ⟨c1, c2, c3, c4⟩ := HC.out w1 B1.out
    go_wp2_with fail
    refine (q2.out _ D1.out).mono ?_
    rintro e w2 ⟨rfl, hb2⟩
    have B2 := mkHid (B1.out.trans (hb2.mono B1.out.size))
    have D2 := mkHid (D1.out.trans (hb2.mono D1.out.size))
    clear hb2 c1 c2 c3 c4
    obtain ⟨c1, c2, c3, c4⟩ := HC.out w2 B2.out
    go_wp2_with fail
    refine (q3.out _ D2.out).mono ?_
    rintro e w3 ⟨rfl, hb3⟩
    have B3 := mkHid (B2.out.trans (hb3.mono B2.out.size))
    have D3 := mkHid (D2.out.trans (hb3.mono D2.out.size))
    clear hb3 c1 c2 c3 c4
    obtain ⟨c1, c2, c3, c4⟩ := HC.out w3 B3.out
    go_wp2_with fail
    refine (q4.out _).mono ?_
    rintro e w4 ⟨rfl, rfl⟩
    go_wp2
    go_ret
    exact ⟨by simp, D3.out⟩
  cases b6
  · go_enter Tryd.func19, Tryd.ntmps19
    go_wp2_with fail
    rw [HV.out]
    refine q1.out.mono ?_
    rintro e w1 ⟨rfl, hb1⟩
    have B1 := mkHid hb1
    have D1 := mkHid (HbV.out.trans (hb1.mono HbV.out.size))
    clear hb1
    obtain ⟨c1, c2, c3, c4⟩ := HC.out w1 B1.out
    go_wp2_with fail
    refine (q2.out _ D1.out).mono ?_
    rintro e w2 ⟨rfl, hb2⟩
    have B2 := mkHid (B1.out.trans (hb2.mono B1.out.size))
    have D2 := mkHid (D1.out.trans (hb2.mono D1.out.size))
    clear hb2 c1 c2 c3 c4
    obtain ⟨c1, c2, c3, c4⟩ := HC.out w2 B2.out
    go_wp2_with fail
    refine (q3.out _ D2.out).mono ?_
    rintro e w3 ⟨rfl, hb3⟩
    have B3 := mkHid (B2.out.trans (hb3.mono B2.out.size))
    have D3 := mkHid (D2.out.trans (hb3.mono D2.out.size))
    clear hb3 c1 c2 c3 c4
    obtain ⟨c1, c2, c3, c4⟩ := HC.out w3 B3.out
    go_wp2_with fail
    refine (q4.out _).mono ?_
    rintro e w4 ⟨rfl, rfl⟩
    go_wp2_with fail
    refine (q5.out _ D3.out).mono ?_
    rintro e w5 ⟨rfl, hb5⟩
    have B5 := mkHid (B3.out.trans (hb5.mono B3.out.size))
    have D5 := mkHid (D3.out.trans (hb5.mono D3.out.size))
    clear hb5 c1 c2 c3 c4
    go_wp2
    go_ret
    exact ⟨by simp, D5.out⟩
  go_enter Tryd.func19, Tryd.ntmps19
  go_wp2_with fail
  rw [HV.out]
  refine q1.out.mono ?_
  rintro e w1 ⟨rfl, hb1⟩
  have B1 := mkHid hb1
  have D1 := mkHid (HbV.out.trans (hb1.mono HbV.out.size))
  clear hb1
  obtain ⟨c1, c2, c3, c4⟩ := HC.out w1 B1.out
  go_wp2_with fail
  refine (q2.out _ D1.out).mono ?_
  rintro e w2 ⟨rfl, hb2⟩
  have B2 := mkHid (B1.out.trans (hb2.mono B1.out.size))
  have D2 := mkHid (D1.out.trans (hb2.mono D1.out.size))
  clear hb2 c1 c2 c3 c4
  obtain ⟨c1, c2, c3, c4⟩ := HC.out w2 B2.out
  go_wp2_with fail
  refine (q3.out _ D2.out).mono ?_
  rintro e w3 ⟨rfl, hb3⟩
  have B3 := mkHid (B2.out.trans (hb3.mono B2.out.size))
  have D3 := mkHid (D2.out.trans (hb3.mono D2.out.size))
  clear hb3 c1 c2 c3 c4
  obtain ⟨c1, c2, c3, c4⟩ := HC.out w3 B3.out
  go_wp2_with fail
  refine (q4.out _).mono ?_
  rintro e w4 ⟨rfl, rfl⟩
  go_wp2_with fail
  refine (q5.out _ D3.out).mono ?_
  rintro e w5 ⟨rfl, hb5⟩
  have B5 := mkHid (B3.out.trans (hb5.mono B3.out.size))
  have D5 := mkHid (D3.out.trans (hb5.mono D3.out.size))
  clear hb5 c1 c2 c3 c4
  obtain ⟨c1, c2, c3, c4⟩ := HC.out w5 B5.out
  go_wp2_with fail
  refine (q6.out _).mono ?_
  rintro e w6 ⟨rfl, rfl⟩
  go_wp2
  go_ret
  exact ⟨by simp, D5.out⟩
theorem implQueueFault (n : GQueueConfig) (v1 v2 v3 : Value) (lo : Nat) (mx : Int) (w : World) (hI : GQueueConfigIn lo w.heap.size w n v1 v2 v3) (hf : n.fits 1048576) (hm : w.cell? ⟨0, 0, none⟩ = some (.int .i64 mx)) :
    Calls Tryd.prog 7 #[GQueueConfigV n v1 v2 v3] w fun e w' => e = .returned (.int .i64 (plQueueFault n)) ∧ Below w.heap.size w w' := by
  have hlt := bcell_lt hm
  have hbV : Below w.heap.size w (w.alloc (bxQ n v1 v2 v3)) := (Below.refl _ _).alloc (Nat.le_refl _) _
  have q1 := mkHid (implQueueConfig n v1 v2 v3 lo mx (w.alloc (bxQ n v1 v2 v3)) ((hI.same (Same.of_below hbV (Nat.le_refl _))).mono (Nat.le_refl _) hbV.size) hf ((hbV.cell hlt).trans hm))
  have q2 := mkHid (fun w => implFormD (Ky.qok n) w)
  unfold plQueueFault
  generalize Ky.qok n = b at *
  clear hI hf hm
  unfold GQueueConfigV at q1 ⊢
  have HbV := mkHid hbV
  clear hbV
  go_enter Tryd.func7, Tryd.ntmps7
  go_wp2_with first | (go_at_call 19; go_must (refine q1.out.mono ?_; rintro e w2 ⟨rfl, hb2⟩)) | (go_at_call 18; go_must (refine (q2.out _).mono ?_; rintro e w3 ⟨rfl, rfl⟩))
  go_ret
  exact ⟨rfl, HbV.out.trans (hb2.mono HbV.out.size)⟩
end Go.Proofs.YteiokojdbblcdaaDoor
