
/- Aliases: the program's tests. (By tools/gen/implqueue.py.) -/
import Derived.Test.YtfkjbamjppnohaaDoorImplKeyFault
import Derived.Test.YtfkjbamjppnohaaDoorSpecAliases
namespace Go.Proofs.YtfkjbamjppnohaaDoor
open Go.RowKit Go.Lib Go.Maps
theorem implNoKey (s : ByteArray) (mx : Int) (w : World) (hs : s.size ≤ 1048576) (hm : w.cell? ⟨0, 0, none⟩ = some (.int .i64 mx)) :
    Calls Tryd.prog 47 #[.string s] w fun e w' => e = .returned (.bool (!Ky.ok s)) ∧ Below w.heap.size w w' := by
  have hK := mkHid (implIsKey s mx w hs hm)
  clear hm
  generalize Ky.ok s = b at *
  go_enter Tryd.func47, Tryd.ntmps47
  go_wp2_with fail
  refine hK.out.mono ?_
  rintro e w2 ⟨rfl, hb⟩
  go_wp2
  go_ret
  exact ⟨rfl, hb⟩
set_option maxHeartbeats 2000000 in
theorem implIndexQT (o : Option Addr) (F : List ByteArray) (cap lo : Nat) (mx : Int) (w : World) (hF : TxL lo w.heap.size w o F) (hl : F.length ≤ 1048576) (hsz : ∀ t ∈ F, t.size ≤ 1048576) (hm : w.cell? ⟨0, 0, none⟩ = some (.int .i64 mx)) :
    Calls Tryd.prog 57 #[.slice o F.length cap, .func (.func 47) #[] #[]] w fun e w' => ∃ i : Int, e = .returned (.int .i64 i) ∧ decide (0 ≤ i) = !F.all Ky.ok ∧ Below w.heap.size w w' := by
  have hE : ∀ (args : Array Value) (w : World), (callFunc 47 args).run Tryd.prog w = .ok (.enter 47 args) w := Go.Proofs.enters_of Tryd.func47 (by kernel_rfl) rfl
  have hlt0 := bcell_lt hm
  have HF := mkHid hF
  have Hm := mkHid hm
  have Hsz := mkHid hsz
  clear hF hm hsz
  obtain ⟨R, hR⟩ : ∃ R, F.all Ky.ok = R := ⟨_, rfl⟩
  have HR : Hid ((F.drop 0).all Ky.ok = R) := hR
  rw [hR]
  clear hR
  go_enter Tryd.func57, Tryd.ntmps57
  go_wp2
  go_loopw [5, 8] (fun _ iv wr => ∃ k : Nat, k ≤ F.length ∧ iv = .int .i64 k ∧ Hid ((F.drop k).all Ky.ok = R) ∧ Hid (Below w.heap.size w wr)) (fun _ iv _ => F.length - (Lib.intOf iv).toNat)
  case atStart => exact ⟨0, Nat.zero_le _, rfl, HR, Below.refl _ _⟩
  case round =>
    clear HR
    obtain ⟨k, hk, rfl, hp, hB⟩ := hrel
    by_cases hlt : k < F.length
    · obtain ⟨a, rfl, ha1, ha2, d0⟩ := ((HF.out.below hB.out (Nat.le_refl _)).mono (Nat.le_refl _) hB.out.size) k hlt
      have hst := Ky.all_drop Ky.ok F k hlt
      rw [hp.out] at hst
      have cN := mkHid (implNoKey F[k] mx wr (Hsz.out _ (List.getElem_mem hlt)) ((hB.out.cell hlt0).trans Hm.out))
      have Hst := mkHid hst
      clear hst hp
      skip
      generalize Ky.ok F[k] = nb at *
      generalize F[k] = x at *
      go_wp2_with fail
      refine cN.out.mono ?_
      rintro e w1 ⟨rfl, hb1⟩
      have hB1 := mkHid (hB.out.trans (hb1.mono hB.out.size))
      clear cN hb1 hB
      cases nb
      · have hR : R = false := by rw [Hst.out, Bool.false_and]
        subst hR
        clear Hst
        go_wp2
        go_ret
        exact ⟨k, rfl, by simp, hB1.out⟩
      · have HN : Hid ((F.drop (k + 1)).all Ky.ok = R) := by show _ = _; rw [Hst.out, Bool.true_and]
        clear Hst
        go_wp2
        go_roundw
        case rel => exact ⟨k + 1, by omega, by go_num, HN, hB1⟩
        case measure => simp [Lib.intOf]; omega
    · have hR : R = true := by rw [← hp.out, List.drop_eq_nil_of_le (by omega)]; rfl
      subst hR
      clear hp
      go_wp2
      go_ret
      exact ⟨-1, rfl, rfl, hB.out⟩
theorem implContainsQT (o : Option Addr) (F : List ByteArray) (cap lo : Nat) (mx : Int) (w : World) (hF : TxL lo w.heap.size w o F) (hl : F.length ≤ 1048576) (hsz : ∀ t ∈ F, t.size ≤ 1048576) (hm : w.cell? ⟨0, 0, none⟩ = some (.int .i64 mx)) :
    Calls Tryd.prog 46 #[.slice o F.length cap, .func (.func 47) #[] #[]] w fun e w' => e = .returned (.bool (!F.all Ky.ok)) ∧ Below w.heap.size w w' := by
  have hI := mkHid (implIndexQT o F cap lo mx w hF hl hsz hm)
  clear hF hm hsz
  go_enter Tryd.func46, Tryd.ntmps46
  go_wp2_with fail
  refine hI.out.mono ?_
  rintro e w2 ⟨i, rfl, hi, hb⟩
  go_wp2
  go_ret
  exact ⟨by rw [← hi]; rfl, hb⟩
abbrev bxA (n : GAlias) (v : Value) : Obj := .cells #[.string n.name, v] 41
theorem boxA_cells (n : GAlias) (v : Value) (w w2 : World) (hb : Below (w.alloc (bxA n v)).heap.size (w.alloc (bxA n v)) w2) :
    w2.cell? ⟨w.heap.size, 0, none⟩ = some (.string n.name) ∧ w2.cell? ⟨w.heap.size, 1, none⟩ = some v := by
  refine ⟨(hb.cell (p := ⟨w.heap.size, 0, none⟩) (by simp)).trans ?_, (hb.cell (p := ⟨w.heap.size, 1, none⟩) (by simp)).trans ?_⟩ <;> simp
set_option maxHeartbeats 2000000 in
theorem implNoAlias (n : GAlias) (v : Value) (lo : Nat) (mx : Int) (w : World) (hI : GAliasIn lo w.heap.size w n v) (hf : n.fits 1048576) (hm : w.cell? ⟨0, 0, none⟩ = some (.int .i64 mx)) :
    Calls Tryd.prog 34 #[GAliasV n v] w fun e w' => e = .returned (.bool (!Ky.aok n)) ∧ Below w.heap.size w w' := by
  obtain ⟨⟨a1, c1, rfl, T1⟩⟩ := hI
  obtain ⟨f0, f1, f2⟩ := hf
  have hlt := bcell_lt hm
  obtain ⟨V, hV⟩ : ∃ V, w.alloc (bxA n (.slice a1 n.toF.length c1)) = V := ⟨_, rfl⟩
  have hbV : Below w.heap.size w V := by rw [← hV]; exact (Below.refl _ _).alloc (Nat.le_refl _) _
  have hmV : V.cell? ⟨0, 0, none⟩ = some (.int .i64 mx) := (hbV.cell hlt).trans hm
  have hK := mkHid (implIsKey n.name mx V f0 hmV)
  have HT := mkHid T1
  have Hm := mkHid hm
  have HC := mkHid (fun (W : World) (hb : Below V.heap.size V W) => boxA_cells n (.slice a1 n.toF.length c1) w W (by rw [hV]; exact hb))
  have HQ := mkHid (fun (W : World) (hb : Below w.heap.size w W) => implContainsQT a1 n.toF c1 lo mx W ((HT.out.below hb (Nat.le_refl _)).mono (Nat.le_refl _) hb.size) f1 f2 ((hb.cell hlt).trans Hm.out))
  clear hm hmV T1 f2
  unfold GAliasV Ky.aok
  have HV := mkHid hV
  have HbV := mkHid hbV
  clear hV hbV
  cases x1 : Ky.ok n.name
  · rw [x1] at hK
    clear x1
    go_enter Tryd.func34, Tryd.ntmps34
    go_wp2_with (go_at_call 19; go_must (rw [HV.out]; refine hK.out.mono ?_; rintro e w2 ⟨rfl, hb2⟩; obtain ⟨c0, c1⟩ := HC.out w2 hb2))
    go_ret
    exact ⟨rfl, HbV.out.trans (hb2.mono HbV.out.size)⟩
  · rw [x1] at hK
    clear x1
    by_cases x2 : n.toF.length ≤ 100
    · have y2 : decide ((100 : Int) < (n.toF.length : Int)) = false := by simp; omega
      rw [decide_eq_true x2]
      generalize n.toF.all Ky.ok = b at *
      go_enter Tryd.func34, Tryd.ntmps34
      go_wp2_with first | (go_at_call 19; go_must (rw [HV.out]; refine hK.out.mono ?_; rintro e w2 ⟨rfl, hb2⟩; obtain ⟨c0, c1⟩ := HC.out w2 hb2; have hbw := mkHid (HbV.out.trans (hb2.mono HbV.out.size)))) | (go_at_call 46; go_must (refine (HQ.out _ hbw.out).mono ?_; rintro e w3 ⟨rfl, hb3⟩))
      go_ret
      exact ⟨by simp, hbw.out.trans (hb3.mono hbw.out.size)⟩
    · have y2 : decide ((100 : Int) < (n.toF.length : Int)) = true := by simp; omega
      rw [decide_eq_false x2]
      go_enter Tryd.func34, Tryd.ntmps34
      go_wp2_with (go_at_call 19; go_must (rw [HV.out]; refine hK.out.mono ?_; rintro e w2 ⟨rfl, hb2⟩; obtain ⟨c0, c1⟩ := HC.out w2 hb2))
      go_ret
      exact ⟨rfl, HbV.out.trans (hb2.mono HbV.out.size)⟩
set_option maxHeartbeats 2000000 in
theorem implIndexQA (o : Option Addr) (F : List GAlias) (cap lo : Nat) (mx : Int) (w : World) (hF : GAliassL lo w.heap.size w o F) (hl : F.length ≤ 1048576) (hsz : ∀ t ∈ F, t.fits 1048576) (hm : w.cell? ⟨0, 0, none⟩ = some (.int .i64 mx)) :
    Calls Tryd.prog 45 #[.slice o F.length cap, .func (.func 34) #[] #[]] w fun e w' => ∃ i : Int, e = .returned (.int .i64 i) ∧ decide (0 ≤ i) = !F.all Ky.aok ∧ Below w.heap.size w w' := by
  have hE : ∀ (args : Array Value) (w : World), (callFunc 34 args).run Tryd.prog w = .ok (.enter 34 args) w := Go.Proofs.enters_of Tryd.func34 (by kernel_rfl) rfl
  have hlt0 := bcell_lt hm
  have HF := mkHid hF
  have Hm := mkHid hm
  have Hsz := mkHid hsz
  clear hF hm hsz
  obtain ⟨R, hR⟩ : ∃ R, F.all Ky.aok = R := ⟨_, rfl⟩
  have HR : Hid ((F.drop 0).all Ky.aok = R) := hR
  rw [hR]
  clear hR
  go_enter Tryd.func45, Tryd.ntmps45
  go_wp2
  go_loopw [5, 8] (fun _ iv wr => ∃ k : Nat, k ≤ F.length ∧ iv = .int .i64 k ∧ Hid ((F.drop k).all Ky.aok = R) ∧ Hid (Below w.heap.size w wr)) (fun _ iv _ => F.length - (Lib.intOf iv).toNat)
  case atStart => exact ⟨0, Nat.zero_le _, rfl, HR, Below.refl _ _⟩
  case round =>
    clear HR
    obtain ⟨k, hk, rfl, hp, hB⟩ := hrel
    by_cases hlt : k < F.length
    · obtain ⟨a, v1, rfl, ha1, ha2, hAt, hIn⟩ := ((HF.out.below hB.out (Nat.le_refl _)).mono (Nat.le_refl _) hB.out.size) k hlt
      have hst := Ky.all_drop Ky.aok F k hlt
      rw [hp.out] at hst
      have cN := mkHid (implNoAlias F[k] v1 lo mx wr hIn (Hsz.out _ (List.getElem_mem hlt)) ((hB.out.cell hlt0).trans Hm.out))
      have d0 := hAt.c0
      have d1 := hAt.c1
      clear hAt hIn
      have Hst := mkHid hst
      clear hst hp
      unfold GAliasV at cN
      generalize Ky.aok F[k] = nb at *
      generalize F[k] = x at *
      go_wp2_with fail
      refine cN.out.mono ?_
      rintro e w1 ⟨rfl, hb1⟩
      have hB1 := mkHid (hB.out.trans (hb1.mono hB.out.size))
      clear cN hb1 hB
      cases nb
      · have hR : R = false := by rw [Hst.out, Bool.false_and]
        subst hR
        clear Hst
        go_wp2
        go_ret
        exact ⟨k, rfl, by simp, hB1.out⟩
      · have HN : Hid ((F.drop (k + 1)).all Ky.aok = R) := by show _ = _; rw [Hst.out, Bool.true_and]
        clear Hst
        go_wp2
        go_roundw
        case rel => exact ⟨k + 1, by omega, by go_num, HN, hB1⟩
        case measure => simp [Lib.intOf]; omega
    · have hR : R = true := by rw [← hp.out, List.drop_eq_nil_of_le (by omega)]; rfl
      subst hR
      clear hp
      go_wp2
      go_ret
      exact ⟨-1, rfl, rfl, hB.out⟩
theorem implContainsQA (o : Option Addr) (F : List GAlias) (cap lo : Nat) (mx : Int) (w : World) (hF : GAliassL lo w.heap.size w o F) (hl : F.length ≤ 1048576) (hsz : ∀ t ∈ F, t.fits 1048576) (hm : w.cell? ⟨0, 0, none⟩ = some (.int .i64 mx)) :
    Calls Tryd.prog 33 #[.slice o F.length cap, .func (.func 34) #[] #[]] w fun e w' => e = .returned (.bool (!F.all Ky.aok)) ∧ Below w.heap.size w w' := by
  have hI := mkHid (implIndexQA o F cap lo mx w hF hl hsz hm)
  clear hF hm hsz
  go_enter Tryd.func33, Tryd.ntmps33
  go_wp2_with fail
  refine hI.out.mono ?_
  rintro e w2 ⟨i, rfl, hi, hb⟩
  go_wp2
  go_ret
  exact ⟨by rw [← hi]; rfl, hb⟩
set_option maxHeartbeats 1000000 in
theorem implAreAliases (o : Option Addr) (F : List GAlias) (cap lo : Nat) (mx : Int) (w : World) (hF : GAliassL lo w.heap.size w o F) (hl : F.length ≤ 1048576) (hsz : ∀ t ∈ F, t.fits 1048576) (hm : w.cell? ⟨0, 0, none⟩ = some (.int .i64 mx)) :
    Calls Tryd.prog 18 #[.slice o F.length cap] w fun e w' => e = .returned (.bool (Ky.asok F)) ∧ Below w.heap.size w w' := by
  have hI := mkHid (implContainsQA o F cap lo mx w hF hl hsz hm)
  clear hF hm hsz
  unfold Ky.asok
  by_cases x : F.length ≤ 100
  · have y : decide ((F.length : Int) ≤ 100) = true := by simp; omega
    rw [decide_eq_true x]
    generalize F.all Ky.aok = b at *
    go_enter Tryd.func18, Tryd.ntmps18
    go_wp2_with (go_at_call 33; go_must (refine hI.out.mono ?_; rintro e w2 ⟨rfl, hb2⟩))
    go_ret
    exact ⟨by simp, hb2⟩
  · have y : decide ((F.length : Int) ≤ 100) = false := by simp; omega
    rw [decide_eq_false x]
    clear hI
    go_enter Tryd.func18, Tryd.ntmps18
    go_wp2
    go_ret
    exact ⟨rfl, Below.refl _ _⟩
end Go.Proofs.YtfkjbamjppnohaaDoor
