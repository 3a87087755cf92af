
/- Tables of hosts and delays: the program's tests. (By tools/gen/implqueue.py.) -/
import Derived.Test.YteiokojdbblcdaaDoorImplQueue1
namespace Go.Proofs.YteiokojdbblcdaaDoor
open Go.RowKit Go.Lib Go.Maps
theorem implFromToQ (z a b : Int) (w : World) : Calls Tryd.prog 34 #[.int .i64 z, .int .i64 a, .int .i64 b] w fun e w' => e = .returned (.bool (decide (a ≤ z) && decide (z ≤ b))) ∧ w = w' := by
  by_cases h1 : a ≤ z
  · have u1 := decide_eq_true h1
    rw [u1]
    go_enter Tryd.func34, Tryd.ntmps34
    go_wp2
    go_ret
    exact ⟨rfl, rfl⟩
  · have u1 := decide_eq_false h1
    rw [u1]
    go_enter Tryd.func34, Tryd.ntmps34
    go_wp2
    go_ret
    exact ⟨rfl, rfl⟩
theorem implIsTimeQ (z : Int) (w : World) : Calls Tryd.prog 37 #[.int .i64 z] w fun e w' => e = .returned (.bool (decide (0 ≤ z) && decide (z ≤ 253402300799))) ∧ w = w' := by
  by_cases h1 : 0 ≤ z
  · have u1 := decide_eq_true h1
    rw [u1]
    go_enter Tryd.func37, Tryd.ntmps37
    go_wp2
    go_ret
    exact ⟨rfl, rfl⟩
  · have u1 := decide_eq_false h1
    rw [u1]
    go_enter Tryd.func37, Tryd.ntmps37
    go_wp2
    go_ret
    exact ⟨rfl, rfl⟩
theorem implNoDelay (z : Int) (w : World) :
    Calls Tryd.prog 36 #[.int .i64 z] w fun e w' => e = .returned (.bool (!Ky.lok z)) ∧ Below w.heap.size w w' := by
  have hK := mkHid (implFromToQ z 1 253402300799 w)
  unfold Ky.lok
  generalize (decide (1 ≤ z) && decide (z ≤ 253402300799)) = b at *
  go_enter Tryd.func36, Tryd.ntmps36
  go_wp2_with fail
  refine hK.out.mono ?_
  rintro e w2 ⟨rfl, rfl⟩
  go_wp2
  go_ret
  exact ⟨rfl, Below.refl _ _⟩
set_option maxHeartbeats 2000000 in
theorem implIndexQI (o : Option Addr) (F : List Int) (cap lo : Nat) (mx : Int) (w : World) (hF : InL lo w.heap.size w o F) (hl : F.length ≤ 1048576) (hm : w.cell? ⟨0, 0, none⟩ = some (.int .i64 mx)) :
    Calls Tryd.prog 51 #[.slice o F.length cap, .func (.func 36) #[] #[]] w fun e w' => ∃ i : Int, e = .returned (.int .i64 i) ∧ decide (0 ≤ i) = !F.all Ky.lok ∧ Below w.heap.size w w' := by
  have hE : ∀ (args : Array Value) (w : World), (callFunc 36 args).run Tryd.prog w = .ok (.enter 36 args) w := Go.Proofs.enters_of Tryd.func36 (by kernel_rfl) rfl
  have hlt0 := bcell_lt hm
  have HF := mkHid hF
  have Hm := mkHid hm
  skip
  clear hF hm
  obtain ⟨R, hR⟩ : ∃ R, F.all Ky.lok = R := ⟨_, rfl⟩
  have HR : Hid ((F.drop 0).all Ky.lok = R) := hR
  rw [hR]
  clear hR
  go_enter Tryd.func51, Tryd.ntmps51
  go_wp2
  go_loopw [5, 8] (fun _ iv wr => ∃ k : Nat, k ≤ F.length ∧ iv = .int .i64 k ∧ Hid ((F.drop k).all Ky.lok = R) ∧ Hid (Below w.heap.size w wr)) (fun _ iv _ => F.length - (Lib.intOf iv).toNat)
  case atStart => exact ⟨0, Nat.zero_le _, rfl, HR, Below.refl _ _⟩
  case round =>
    clear HR
    obtain ⟨k, hk, rfl, hp, hB⟩ := hrel
    by_cases hlt : k < F.length
    · obtain ⟨a, rfl, ha1, ha2, d0⟩ := ((HF.out.below hB.out (Nat.le_refl _)).mono (Nat.le_refl _) hB.out.size) k hlt
      have hst := Ky.all_drop Ky.lok F k hlt
      rw [hp.out] at hst
      have cN := mkHid (implNoDelay F[k] wr)
      have Hst := mkHid hst
      clear hst hp
      skip
      generalize Ky.lok F[k] = nb at *
      generalize F[k] = x at *
      go_wp2_with fail
      refine cN.out.mono ?_
      rintro e w1 ⟨rfl, hb1⟩
      have hB1 := mkHid (hB.out.trans (hb1.mono hB.out.size))
      clear cN hb1 hB
      cases nb
      · have hR : R = false := by rw [Hst.out, Bool.false_and]
        subst hR
        clear Hst
        go_wp2
        go_ret
        exact ⟨k, rfl, by simp, hB1.out⟩
      · have HN : Hid ((F.drop (k + 1)).all Ky.lok = R) := by show _ = _; rw [Hst.out, Bool.true_and]
        clear Hst
        go_wp2
        go_roundw
        case rel => exact ⟨k + 1, by omega, by go_num, HN, hB1⟩
        case measure => simp [Lib.intOf]; omega
    · have hR : R = true := by rw [← hp.out, List.drop_eq_nil_of_le (by omega)]; rfl
      subst hR
      clear hp
      go_wp2
      go_ret
      exact ⟨-1, rfl, rfl, hB.out⟩
theorem implContainsQI (o : Option Addr) (F : List Int) (cap lo : Nat) (mx : Int) (w : World) (hF : InL lo w.heap.size w o F) (hl : F.length ≤ 1048576) (hm : w.cell? ⟨0, 0, none⟩ = some (.int .i64 mx)) :
    Calls Tryd.prog 35 #[.slice o F.length cap, .func (.func 36) #[] #[]] w fun e w' => e = .returned (.bool (!F.all Ky.lok)) ∧ Below w.heap.size w w' := by
  have hI := mkHid (implIndexQI o F cap lo mx w hF hl hm)
  clear hF hm
  go_enter Tryd.func35, Tryd.ntmps35
  go_wp2_with fail
  refine hI.out.mono ?_
  rintro e w2 ⟨i, rfl, hi, hb⟩
  go_wp2
  go_ret
  exact ⟨by rw [← hi]; rfl, hb⟩
abbrev bxM (n : GMx) : Obj := .cells #[.string n.domain, .int .i64 n.prefer, .string n.host] 43
theorem boxM_cells (n : GMx) (w w2 : World) (hb : Below (w.alloc (bxM n)).heap.size (w.alloc (bxM n)) w2) :
    w2.cell? ⟨w.heap.size, 0, none⟩ = some (.string n.domain) ∧ w2.cell? ⟨w.heap.size, 1, none⟩ = some (.int .i64 n.prefer) ∧ w2.cell? ⟨w.heap.size, 2, none⟩ = some (.string n.host) := by
  refine ⟨(hb.cell (p := ⟨w.heap.size, 0, none⟩) (by simp)).trans ?_, (hb.cell (p := ⟨w.heap.size, 1, none⟩) (by simp)).trans ?_, (hb.cell (p := ⟨w.heap.size, 2, none⟩) (by simp)).trans ?_⟩ <;> simp
set_option maxHeartbeats 2000000 in
theorem implNoMx (n : GMx) (mx : Int) (w : World) (hf : n.fits 1048576) (hm : w.cell? ⟨0, 0, none⟩ = some (.int .i64 mx)) :
    Calls Tryd.prog 33 #[GMxV n] w fun e w' => e = .returned (.bool (!Ky.mok n)) ∧ Below w.heap.size w w' := by
  obtain ⟨f0, f1⟩ := hf
  have hlt := bcell_lt hm
  obtain ⟨V, hV⟩ : ∃ V, w.alloc (bxM n) = V := ⟨_, rfl⟩
  have hbV : Below w.heap.size w V := by rw [← hV]; exact (Below.refl _ _).alloc (Nat.le_refl _) _
  have hmV : V.cell? ⟨0, 0, none⟩ = some (.int .i64 mx) := (hbV.cell hlt).trans hm
  have hA := mkHid (implDomainName n.domain mx V (by omega) hmV)
  have hB := mkHid (fun (W : World) (hm : W.cell? ⟨0, 0, none⟩ = some (.int .i64 mx)) => implDomainName n.host mx W (by omega) hm)
  have hF := mkHid (fun (W : World) => implFromToQ n.prefer 0 1000 W)
  have Hm := mkHid hm
  have HC := mkHid (fun (W : World) (hb : Below V.heap.size V W) => boxM_cells n w W (by rw [hV]; exact hb))
  clear hm hmV
  unfold GMxV Ky.mok
  have HV := mkHid hV
  have HbV := mkHid hbV
  clear hV hbV
  cases x1 : Ky.dok n.domain
  · rw [x1] at hA
    clear x1
    go_enter Tryd.func33, Tryd.ntmps33
    go_wp2_with fail
    rw [HV.out]
    refine hA.out.mono ?_
    rintro e w2 ⟨rfl, hb2⟩
    go_wp2
    go_ret
    exact ⟨rfl, HbV.out.trans (hb2.mono HbV.out.size)⟩
  · rw [x1] at hA
    clear x1
    cases x2 : Ky.dok n.host
    · rw [x2] at hB
      clear x2
      go_enter Tryd.func33, Tryd.ntmps33
      go_wp2_with fail
      rw [HV.out]
      refine hA.out.mono ?_
      rintro e w2 ⟨rfl, hb2⟩
      obtain ⟨c0, c1, c2⟩ := HC.out w2 hb2
      have hbw := mkHid (HbV.out.trans (hb2.mono HbV.out.size))
      go_wp2_with fail
      refine (hB.out _ ((hbw.out.cell hlt).trans Hm.out)).mono ?_
      rintro e w3 ⟨rfl, hb3⟩
      go_wp2
      go_ret
      exact ⟨rfl, hbw.out.trans (hb3.mono hbw.out.size)⟩
    · rw [x2] at hB
      clear x2
      generalize (decide (0 ≤ n.prefer) && decide (n.prefer ≤ 1000)) = b at *
      go_enter Tryd.func33, Tryd.ntmps33
      go_wp2_with fail
      rw [HV.out]
      refine hA.out.mono ?_
      rintro e w2 ⟨rfl, hb2⟩
      obtain ⟨c0, c1, c2⟩ := HC.out w2 hb2
      have hbw := mkHid (HbV.out.trans (hb2.mono HbV.out.size))
      go_wp2_with fail
      refine (hB.out _ ((hbw.out.cell hlt).trans Hm.out)).mono ?_
      rintro e w3 ⟨rfl, hb3⟩
      obtain ⟨e0, e1, e2⟩ := HC.out w3 (hb2.trans (hb3.mono hb2.size))
      go_wp2_with fail
      refine (hF.out _).mono ?_
      rintro e w4 ⟨rfl, rfl⟩
      go_wp2
      go_ret
      exact ⟨by simp, hbw.out.trans (hb3.mono hbw.out.size)⟩
set_option maxHeartbeats 2000000 in
theorem implIndexQM (o : Option Addr) (F : List GMx) (cap lo : Nat) (mx : Int) (w : World) (hF : GMxsL lo w.heap.size w o F) (hl : F.length ≤ 1048576) (hsz : ∀ t ∈ F, t.fits 1048576) (hm : w.cell? ⟨0, 0, none⟩ = some (.int .i64 mx)) :
    Calls Tryd.prog 50 #[.slice o F.length cap, .func (.func 33) #[] #[]] w fun e w' => ∃ i : Int, e = .returned (.int .i64 i) ∧ decide (0 ≤ i) = !F.all Ky.mok ∧ Below w.heap.size w w' := by
  have hE : ∀ (args : Array Value) (w : World), (callFunc 33 args).run Tryd.prog w = .ok (.enter 33 args) w := Go.Proofs.enters_of Tryd.func33 (by kernel_rfl) rfl
  have hlt0 := bcell_lt hm
  have HF := mkHid hF
  have Hm := mkHid hm
  have Hsz := mkHid hsz
  clear hF hm hsz
  obtain ⟨R, hR⟩ : ∃ R, F.all Ky.mok = R := ⟨_, rfl⟩
  have HR : Hid ((F.drop 0).all Ky.mok = R) := hR
  rw [hR]
  clear hR
  go_enter Tryd.func50, Tryd.ntmps50
  go_wp2
  go_loopw [5, 8] (fun _ iv wr => ∃ k : Nat, k ≤ F.length ∧ iv = .int .i64 k ∧ Hid ((F.drop k).all Ky.mok = R) ∧ Hid (Below w.heap.size w wr)) (fun _ iv _ => F.length - (Lib.intOf iv).toNat)
  case atStart => exact ⟨0, Nat.zero_le _, rfl, HR, Below.refl _ _⟩
  case round =>
    clear HR
    obtain ⟨k, hk, rfl, hp, hB⟩ := hrel
    by_cases hlt : k < F.length
    · obtain ⟨a, rfl, ha1, ha2, hAt⟩ := ((HF.out.below hB.out (Nat.le_refl _)).mono (Nat.le_refl _) hB.out.size) k hlt
      have hst := Ky.all_drop Ky.mok F k hlt
      rw [hp.out] at hst
      have cN := mkHid (implNoMx F[k] mx wr (Hsz.out _ (List.getElem_mem hlt)) ((hB.out.cell hlt0).trans Hm.out))
      have d0 := hAt.c0
      have d1 := hAt.c1
      have d2 := hAt.c2
      clear hAt
      have Hst := mkHid hst
      clear hst hp
      unfold GMxV at cN
      generalize Ky.mok F[k] = nb at *
      generalize F[k] = x at *
      go_wp2_with fail
      refine cN.out.mono ?_
      rintro e w1 ⟨rfl, hb1⟩
      have hB1 := mkHid (hB.out.trans (hb1.mono hB.out.size))
      clear cN hb1 hB
      cases nb
      · have hR : R = false := by rw [Hst.out, Bool.false_and]
        subst hR
        clear Hst
        go_wp2
        go_ret
        exact ⟨k, rfl, by simp, hB1.out⟩
      · have HN : Hid ((F.drop (k + 1)).all Ky.mok = R) := by show _ = _; rw [Hst.out, Bool.true_and]
        clear Hst
        go_wp2
        go_roundw
        case rel => exact ⟨k + 1, by omega, by go_num, HN, hB1⟩
        case measure => simp [Lib.intOf]; omega
    · have hR : R = true := by rw [← hp.out, List.drop_eq_nil_of_le (by omega)]; rfl
      subst hR
      clear hp
      go_wp2
      go_ret
      exact ⟨-1, rfl, rfl, hB.out⟩
theorem implContainsQM (o : Option Addr) (F : List GMx) (cap lo : Nat) (mx : Int) (w : World) (hF : GMxsL lo w.heap.size w o F) (hl : F.length ≤ 1048576) (hsz : ∀ t ∈ F, t.fits 1048576) (hm : w.cell? ⟨0, 0, none⟩ = some (.int .i64 mx)) :
    Calls Tryd.prog 32 #[.slice o F.length cap, .func (.func 33) #[] #[]] w fun e w' => e = .returned (.bool (!F.all Ky.mok)) ∧ Below w.heap.size w w' := by
  have hI := mkHid (implIndexQM o F cap lo mx w hF hl hsz hm)
  clear hF hm hsz
  go_enter Tryd.func32, Tryd.ntmps32
  go_wp2_with fail
  refine hI.out.mono ?_
  rintro e w2 ⟨i, rfl, hi, hb⟩
  go_wp2
  go_ret
  exact ⟨by rw [← hi]; rfl, hb⟩
end Go.Proofs.YteiokojdbblcdaaDoor
