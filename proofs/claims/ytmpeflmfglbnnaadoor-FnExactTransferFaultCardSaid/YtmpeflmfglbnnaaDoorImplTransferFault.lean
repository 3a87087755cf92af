
/- The program's TransferFault. (By tools/gen/impltransfer.py.) -/
import Derived.Test.YtmpeflmfglbnnaaDoorSpecTransferFault
import Derived.Test.YtmpeflmfglbnnaaDoorSignBoth
namespace Go.Proofs.YtmpeflmfglbnnaaDoor
open Go.RowKit Go.Lib Go.Maps
set_option maxRecDepth 20000 in
theorem implFromToT (z a b : Int) (w : World) : Calls Tryd.prog 18 #[.int .i64 z, .int .i64 a, .int .i64 b] w fun e w' => e = .returned (.bool (decide (a ≤ z) && decide (z ≤ b))) ∧ w = w' := by
  by_cases h1 : a ≤ z
  · have u1 := decide_eq_true h1
    rw [u1]
    go_enter Tryd.func18, Tryd.ntmps18
    go_wp2
    go_ret
    exact ⟨rfl, rfl⟩
  · have u1 := decide_eq_false h1
    rw [u1]
    go_enter Tryd.func18, Tryd.ntmps18
    go_wp2
    go_ret
    exact ⟨rfl, rfl⟩
set_option maxRecDepth 20000 in
theorem implFormT (b : Bool) (w : World) : Calls Tryd.prog 16 #[.bool b] w fun e w' => e = .returned (.int .i64 (dcode b)) ∧ w = w' := by
  cases b
  all_goals
    go_enter Tryd.func16, Tryd.ntmps16
    go_wp2
    go_ret
    exact ⟨rfl, rfl⟩
abbrev bxK (n : GSignKey) : Obj := .cells #[.string n.domain, .string n.selector, .int .i64 n.a, .int .i64 n.b] 37
set_option maxRecDepth 20000 in
theorem boxK_cells (n : GSignKey) (w w2 : World) (hb : Below (w.alloc (bxK n)).heap.size (w.alloc (bxK n)) w2) :
    w2.cell? ⟨w.heap.size, 0, none⟩ = some (.string n.domain) ∧ w2.cell? ⟨w.heap.size, 1, none⟩ = some (.string n.selector) ∧ w2.cell? ⟨w.heap.size, 2, none⟩ = some (.int .i64 n.a) ∧ w2.cell? ⟨w.heap.size, 3, none⟩ = some (.int .i64 n.b) := by
  refine ⟨(hb.cell (p := ⟨w.heap.size, 0, none⟩) (by simp)).trans ?_, (hb.cell (p := ⟨w.heap.size, 1, none⟩) (by simp)).trans ?_, (hb.cell (p := ⟨w.heap.size, 2, none⟩) (by simp)).trans ?_, (hb.cell (p := ⟨w.heap.size, 3, none⟩) (by simp)).trans ?_⟩ <;> simp
set_option maxRecDepth 20000 in
set_option maxHeartbeats 2000000 in
theorem implNoSignKey (n : GSignKey) (mx : Int) (w : World) (hf : n.fits 1048576) (hm : w.cell? ⟨0, 0, none⟩ = some (.int .i64 mx)) :
    Calls Tryd.prog 20 #[GSignKeyV n] w fun e w' => e = .returned (.bool (!Tf.uok n)) ∧ Below w.heap.size w w' := by
  obtain ⟨f0, f1⟩ := hf
  have hlt := bcell_lt hm
  obtain ⟨V, hV⟩ : ∃ V, w.alloc (bxK n) = V := ⟨_, rfl⟩
  have hbV : Below w.heap.size w V := by rw [← hV]; exact (Below.refl _ _).alloc (Nat.le_refl _) _
  have hmV : V.cell? ⟨0, 0, none⟩ = some (.int .i64 mx) := (hbV.cell hlt).trans hm
  have qA := mkHid (implSignDomain n.domain mx V (by omega) hmV)
  have qB := mkHid (fun (W : World) => implSelector n.selector W (by omega))
  have qC := mkHid (fun (W : World) => implRight n.domain n.selector n.a n.b W)
  have HC := mkHid (fun (W : World) (hb : Below V.heap.size V W) => boxK_cells n w W (by rw [hV]; exact hb))
  clear hm hmV
  unfold GSignKeyV Tf.uok
  have HV := mkHid hV
  have HbV := mkHid hbV
  clear hV hbV
  generalize Pl.domOk n.domain.data.toList = b1 at *
  generalize Pl.selOk n.selector.data.toList = b2 at *
  generalize keyOk n.a n.b = b3 at *
  cases b1
  · go_enter Tryd.func20, Tryd.ntmps20
    go_wp2_with fail
    rw [HV.out]
    refine qA.out.mono ?_
    rintro e w1 ⟨rfl, hb1⟩
    have D1 := mkHid (HbV.out.trans (hb1.mono HbV.out.size))
    obtain ⟨c0, c1, c2, c3⟩ := HC.out w1 hb1
    clear hb1
    go_wp2
    go_ret
    exact ⟨by simp, D1.out⟩
  cases b2
  · go_enter Tryd.func20, Tryd.ntmps20
    go_wp2_with fail
    rw [HV.out]
    refine qA.out.mono ?_
    rintro e w1 ⟨rfl, hb1⟩
    have D1 := mkHid (HbV.out.trans (hb1.mono HbV.out.size))
    obtain ⟨c0, c1, c2, c3⟩ := HC.out w1 hb1
    clear hb1
    go_wp2_with fail
    refine (qB.out _).mono ?_
    rintro e w2 ⟨rfl, rfl⟩
    go_wp2
    go_ret
    exact ⟨by simp, D1.out⟩
  go_enter Tryd.func20, Tryd.ntmps20
  go_wp2_with fail
  rw [HV.out]
  refine qA.out.mono ?_
  rintro e w1 ⟨rfl, hb1⟩
  have D1 := mkHid (HbV.out.trans (hb1.mono HbV.out.size))
  obtain ⟨c0, c1, c2, c3⟩ := HC.out w1 hb1
  clear hb1
  go_wp2_with fail
  refine (qB.out _).mono ?_
  rintro e w2 ⟨rfl, rfl⟩
  go_wp2_with fail
  refine (qC.out _).mono ?_
  rintro e w3 ⟨rfl, hb3⟩
  have D3 := mkHid (D1.out.trans (hb3.mono D1.out.size))
  clear hb3
  go_wp2
  go_ret
  exact ⟨by simp, D3.out⟩
set_option maxRecDepth 20000 in
set_option maxHeartbeats 2000000 in
theorem implIndexQK (o : Option Addr) (F : List GSignKey) (cap lo : Nat) (mx : Int) (w : World) (hF : GSignKeysL lo w.heap.size w o F) (hl : F.length ≤ 1048576) (hsz : ∀ t ∈ F, t.fits 1048576) (hm : w.cell? ⟨0, 0, none⟩ = some (.int .i64 mx)) :
    Calls Tryd.prog 29 #[.slice o F.length cap, .func (.func 20) #[] #[]] w fun e w' => ∃ i : Int, e = .returned (.int .i64 i) ∧ decide (0 ≤ i) = !F.all Tf.uok ∧ Below w.heap.size w w' := by
  have hE : ∀ (args : Array Value) (w : World), (callFunc 20 args).run Tryd.prog w = .ok (.enter 20 args) w := Go.Proofs.enters_of Tryd.func20 (by kernel_rfl) rfl
  have hlt0 := bcell_lt hm
  have HF := mkHid hF
  have Hm := mkHid hm
  have Hsz := mkHid hsz
  clear hF hm hsz
  obtain ⟨R, hR⟩ : ∃ R, F.all Tf.uok = R := ⟨_, rfl⟩
  have HR : Hid ((F.drop 0).all Tf.uok = R) := hR
  rw [hR]
  clear hR
  go_enter Tryd.func29, Tryd.ntmps29
  go_wp2
  go_loopw [5, 8] (fun _ iv wr => ∃ k : Nat, k ≤ F.length ∧ iv = .int .i64 k ∧ Hid ((F.drop k).all Tf.uok = R) ∧ Hid (Below w.heap.size w wr)) (fun _ iv _ => F.length - (Lib.intOf iv).toNat)
  case atStart => exact ⟨0, Nat.zero_le _, rfl, HR, Below.refl _ _⟩
  case round =>
    clear HR
    obtain ⟨k, hk, rfl, hp, hB⟩ := hrel
    by_cases hlt : k < F.length
    · obtain ⟨a, rfl, ha1, ha2, hAt⟩ := ((HF.out.below hB.out (Nat.le_refl _)).mono (Nat.le_refl _) hB.out.size) k hlt
      have hst := Tf.all_drop Tf.uok F k hlt
      rw [hp.out] at hst
      have cN := mkHid (implNoSignKey F[k] mx wr (Hsz.out _ (List.getElem_mem hlt)) ((hB.out.cell hlt0).trans Hm.out))
      have d0 := hAt.c0
      have d1 := hAt.c1
      have d2 := hAt.c2
      have d3 := hAt.c3
      clear hAt
      have Hst := mkHid hst
      clear hst hp
      unfold GSignKeyV at cN
      generalize Tf.uok F[k] = nb at *
      generalize F[k] = x at *
      go_wp2_with fail
      refine cN.out.mono ?_
      rintro e w1 ⟨rfl, hb1⟩
      have hB1 := mkHid (hB.out.trans (hb1.mono hB.out.size))
      clear cN hb1 hB
      cases nb
      · have hR : R = false := by rw [Hst.out, Bool.false_and]
        subst hR
        clear Hst
        go_wp2
        go_ret
        exact ⟨k, rfl, by simp, hB1.out⟩
      · have HN : Hid ((F.drop (k + 1)).all Tf.uok = R) := by show _ = _; rw [Hst.out, Bool.true_and]
        clear Hst
        go_wp2
        go_roundw
        case rel => exact ⟨k + 1, by omega, by go_num, HN, hB1⟩
        case measure => simp [Lib.intOf]; omega
    · have hR : R = true := by rw [← hp.out, List.drop_eq_nil_of_le (by omega)]; rfl
      subst hR
      clear hp
      go_wp2
      go_ret
      exact ⟨-1, rfl, rfl, hB.out⟩
set_option maxRecDepth 20000 in
theorem implContainsQK (o : Option Addr) (F : List GSignKey) (cap lo : Nat) (mx : Int) (w : World) (hF : GSignKeysL lo w.heap.size w o F) (hl : F.length ≤ 1048576) (hsz : ∀ t ∈ F, t.fits 1048576) (hm : w.cell? ⟨0, 0, none⟩ = some (.int .i64 mx)) :
    Calls Tryd.prog 19 #[.slice o F.length cap, .func (.func 20) #[] #[]] w fun e w' => e = .returned (.bool (!F.all Tf.uok)) ∧ Below w.heap.size w w' := by
  have hI := mkHid (implIndexQK o F cap lo mx w hF hl hsz hm)
  clear hF hm hsz
  go_enter Tryd.func19, Tryd.ntmps19
  go_wp2_with fail
  refine hI.out.mono ?_
  rintro e w2 ⟨i, rfl, hi, hb⟩
  go_wp2
  go_ret
  exact ⟨by rw [← hi]; rfl, hb⟩
abbrev bxT (n : GTransferConfig) (v3 : Value) : Obj := .cells #[.string n.locF, .bool n.relay, .int .i64 n.maxBytes, v3, .int .i64 n.seed] 29
set_option maxRecDepth 20000 in
theorem boxT_cells (n : GTransferConfig) (v3 : Value) (w w2 : World) (hb : Below (w.alloc (bxT n v3)).heap.size (w.alloc (bxT n v3)) w2) :
    w2.cell? ⟨w.heap.size, 2, none⟩ = some (.int .i64 n.maxBytes) ∧ w2.cell? ⟨w.heap.size, 3, none⟩ = some v3 ∧ w2.cell? ⟨w.heap.size, 4, none⟩ = some (.int .i64 n.seed) := by
  refine ⟨(hb.cell (p := ⟨w.heap.size, 2, none⟩) (by simp)).trans ?_, (hb.cell (p := ⟨w.heap.size, 3, none⟩) (by simp)).trans ?_, (hb.cell (p := ⟨w.heap.size, 4, none⟩) (by simp)).trans ?_⟩ <;> simp
/-- The parts in the program's order. -/
def Tf.imp (n : GTransferConfig) : Bool := (Ky.dok n.locF && Tf.t2 n) && ((Tf.t3 n && Tf.t4 n) && ((Tf.t6 n && Tf.t7 n) && (Tf.t5 n && n.users.all Tf.uok)))
set_option maxRecDepth 20000 in
theorem Tf.imp_eq (n : GTransferConfig) : Tf.imp n = Tf.ok n := by
  unfold Tf.imp Tf.ok
  cases Ky.dok n.locF <;> cases Tf.t2 n <;> cases Tf.t3 n <;> cases Tf.t4 n <;> cases Tf.t5 n <;> cases Tf.t6 n <;> cases Tf.t7 n <;> cases n.users.all Tf.uok <;> rfl
set_option maxHeartbeats 8000000 in
set_option maxRecDepth 20000 in
theorem implTransferFault (n : GTransferConfig) (v3 : Value) (lo : Nat) (mx : Int) (w : World) (hI : GTransferConfigIn lo w.heap.size w n v3) (hf : n.fits 1048576) (hm : w.cell? ⟨0, 0, none⟩ = some (.int .i64 mx)) :
    Calls Tryd.prog 7 #[GTransferConfigV n v3] w fun e w' => e = .returned (.int .i64 (plTransferFault n)) ∧ Below w.heap.size w w' := by
  unfold plTransferFault
  rw [← Tf.imp_eq]
  obtain ⟨⟨a3, e3, rfl, s3⟩⟩ := hI
  obtain ⟨f0, f3, f3b⟩ := hf
  have hlt := bcell_lt hm
  obtain ⟨V, hV⟩ : ∃ V, w.alloc (bxT n (.slice a3 n.users.length e3)) = V := ⟨_, rfl⟩
  have hbV : Below w.heap.size w V := by rw [← hV]; exact (Below.refl _ _).alloc (Nat.le_refl _) _
  have hmV : V.cell? ⟨0, 0, none⟩ = some (.int .i64 mx) := (hbV.cell hlt).trans hm
  have q1 := mkHid (implLocalDomain n.locF mx V f0 hmV)
  have S3 := mkHid s3
  have Hm := mkHid hm
  have HC := mkHid (fun (W : World) (hb : Below V.heap.size V W) => boxT_cells n (.slice a3 n.users.length e3) w W (by rw [hV]; exact hb))
  have q2 := mkHid (fun (W : World) => implFromToT n.maxBytes 1 100000 W)
  have q3 := mkHid (fun (W : World) => implFromToT n.seed 0 4294967295 W)
  have q4 := mkHid (fun (W : World) (hb : Below w.heap.size w W) => implContainsQK a3 n.users e3 lo mx W ((S3.out.below hb (Nat.le_refl _)).mono (Nat.le_refl _) hb.size) f3 f3b ((hb.cell hlt).trans Hm.out))
  have q5 := mkHid (fun (b : Bool) (W : World) => implFormT b W)
  have h4 : decide ((n.users.length : Int) ≤ 100) = Tf.t5 n := by
    unfold Tf.t5
    apply decide_eq_decide.2
    omega
  rw [show (decide ((1 : Int) ≤ n.maxBytes) && decide (n.maxBytes ≤ 100000)) = (Tf.t3 n && Tf.t4 n) from rfl] at q2
  rw [show (decide ((0 : Int) ≤ n.seed) && decide (n.seed ≤ 4294967295)) = (Tf.t6 n && Tf.t7 n) from rfl] at q3
  rw [show ((Ky.low n.locF).toList == n.locF.toList) = Tf.t2 n from rfl] at q1
  clear hm hmV s3 f3b
  unfold GTransferConfigV Tf.imp
  have HV := mkHid hV
  have HbV := mkHid hbV
  clear hV hbV
  generalize (Ky.dok n.locF && Tf.t2 n) = b1 at *
  generalize (Tf.t3 n && Tf.t4 n) = b2 at *
  generalize (Tf.t6 n && Tf.t7 n) = b3 at *
  generalize Tf.t5 n = b4 at *
  generalize n.users.all Tf.uok = b5 at *
  cases b1
  · go_enter Tryd.func7, Tryd.ntmps7
    go_wp2_with fail
    rw [HV.out]
    refine q1.out.mono ?_
    rintro e w1 ⟨rfl, hb1⟩
    have D1 := mkHid (HbV.out.trans (hb1.mono HbV.out.size))
    obtain ⟨c2, c3, c4⟩ := HC.out w1 hb1
    clear hb1
    go_wp2_with fail
    refine (q5.out _ _).mono ?_
    rintro e w5 ⟨rfl, rfl⟩
    go_wp2
    go_ret
    exact ⟨by simp, D1.out⟩
  cases b2
  · go_enter Tryd.func7, Tryd.ntmps7
    go_wp2_with fail
    rw [HV.out]
    refine q1.out.mono ?_
    rintro e w1 ⟨rfl, hb1⟩
    have D1 := mkHid (HbV.out.trans (hb1.mono HbV.out.size))
    obtain ⟨c2, c3, c4⟩ := HC.out w1 hb1
    clear hb1
    go_wp2_with fail
    refine (q2.out _).mono ?_
    rintro e w2 ⟨rfl, rfl⟩
    go_wp2_with fail
    refine (q5.out _ _).mono ?_
    rintro e w5 ⟨rfl, rfl⟩
    go_wp2
    go_ret
    exact ⟨by simp, D1.out⟩
  cases b3
  · go_enter Tryd.func7, Tryd.ntmps7
    go_wp2_with fail
    rw [HV.out]
    refine q1.out.mono ?_
    rintro e w1 ⟨rfl, hb1⟩
    have D1 := mkHid (HbV.out.trans (hb1.mono HbV.out.size))
    obtain ⟨c2, c3, c4⟩ := HC.out w1 hb1
    clear hb1
    go_wp2_with fail
    refine (q2.out _).mono ?_
    rintro e w2 ⟨rfl, rfl⟩
    go_wp2_with fail
    refine (q3.out _).mono ?_
    rintro e w3 ⟨rfl, rfl⟩
    go_wp2_with fail
    refine (q5.out _ _).mono ?_
    rintro e w5 ⟨rfl, rfl⟩
    go_wp2
    go_ret
    exact ⟨by simp, D1.out⟩
  cases b4
  · go_enter Tryd.func7, Tryd.ntmps7
    go_wp2_with fail
    rw [HV.out]
    refine q1.out.mono ?_
    rintro e w1 ⟨rfl, hb1⟩
    have D1 := mkHid (HbV.out.trans (hb1.mono HbV.out.size))
    obtain ⟨c2, c3, c4⟩ := HC.out w1 hb1
    clear hb1
    go_wp2_with fail
    refine (q2.out _).mono ?_
    rintro e w2 ⟨rfl, rfl⟩
    go_wp2_with fail
    refine (q3.out _).mono ?_
    rintro e w3 ⟨rfl, rfl⟩
    go_wp2_with fail
    refine (q5.out _ _).mono ?_
    rintro e w5 ⟨rfl, rfl⟩
    go_wp2
    go_ret
    exact ⟨by simp, D1.out⟩
  go_enter Tryd.func7, Tryd.ntmps7
  go_wp2_with fail
  rw [HV.out]
  refine q1.out.mono ?_
  rintro e w1 ⟨rfl, hb1⟩
  have D1 := mkHid (HbV.out.trans (hb1.mono HbV.out.size))
  obtain ⟨c2, c3, c4⟩ := HC.out w1 hb1
  clear hb1
  go_wp2_with fail
  refine (q2.out _).mono ?_
  rintro e w2 ⟨rfl, rfl⟩
  go_wp2_with fail
  refine (q3.out _).mono ?_
  rintro e w3 ⟨rfl, rfl⟩
  go_wp2_with fail
  refine (q4.out _ D1.out).mono ?_
  rintro e w4 ⟨rfl, hb4⟩
  have D4 := mkHid (D1.out.trans (hb4.mono D1.out.size))
  clear hb4
  go_wp2_with fail
  refine (q5.out _ _).mono ?_
  rintro e w5 ⟨rfl, rfl⟩
  go_wp2
  go_ret
  exact ⟨by simp, D4.out⟩
end Go.Proofs.YtmpeflmfglbnnaaDoor
