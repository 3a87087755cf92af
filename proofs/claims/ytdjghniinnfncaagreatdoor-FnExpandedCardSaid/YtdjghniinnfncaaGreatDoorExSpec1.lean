
/- Aliases: the program's tests. (By tools/gen/implqueue.py.) -/

/- The program's Expand. -/

/- The specification's walk through aliases: its memory. -/
import Derived.Test.YtdjghniinnfncaaGreatDoorSpecAliases
import Derived.Test.YtdjghniinnfncaaGreatDoorExFollow
import Derived.Maps.AppendAt
namespace Go.Proofs.YtdjghniinnfncaaGreatDoor
open Go.RowKit Go.Lib Go.Maps
set_option maxRecDepth 20000 in
theorem implNoKey (s : ByteArray) (mx : Int) (w : World) (hs : s.size ≤ 1048576) (hm : w.cell? ⟨0, 0, none⟩ = some (.int .i64 mx)) :
    Calls Tryz.prog 56 #[.string s] w fun e w' => e = .returned (.bool (!Ky.ok s)) ∧ Below w.heap.size w w' := by
  have hK := mkHid (implIsKey s mx w hs hm)
  clear hm
  generalize Ky.ok s = b at *
  go_enter Tryz.func56, Tryz.ntmps56
  go_wp2_with fail
  refine hK.out.mono ?_
  rintro e w2 ⟨rfl, hb⟩
  go_wp2
  go_ret
  exact ⟨rfl, hb⟩
set_option maxRecDepth 20000 in
set_option maxHeartbeats 2000000 in
theorem implIndexQT (o : Option Addr) (F : List ByteArray) (cap lo : Nat) (mx : Int) (w : World) (hF : TxL lo w.heap.size w o F) (hl : F.length ≤ 1048576) (hsz : ∀ t ∈ F, t.size ≤ 1048576) (hm : w.cell? ⟨0, 0, none⟩ = some (.int .i64 mx)) :
    Calls Tryz.prog 73 #[.slice o F.length cap, .func (.func 56) #[] #[]] w fun e w' => ∃ i : Int, e = .returned (.int .i64 i) ∧ decide (0 ≤ i) = !F.all Ky.ok ∧ Below w.heap.size w w' := by
  have hE : ∀ (args : Array Value) (w : World), (callFunc 56 args).run Tryz.prog w = .ok (.enter 56 args) w := Go.Proofs.enters_of Tryz.func56 (by kernel_rfl) rfl
  have hlt0 := bcell_lt hm
  have HF := mkHid hF
  have Hm := mkHid hm
  have Hsz := mkHid hsz
  clear hF hm hsz
  obtain ⟨R, hR⟩ : ∃ R, F.all Ky.ok = R := ⟨_, rfl⟩
  have HR : Hid ((F.drop 0).all Ky.ok = R) := hR
  rw [hR]
  clear hR
  go_enter Tryz.func73, Tryz.ntmps73
  go_wp2
  go_loopw [5, 8] (fun _ iv wr => ∃ k : Nat, k ≤ F.length ∧ iv = .int .i64 k ∧ Hid ((F.drop k).all Ky.ok = R) ∧ Hid (Below w.heap.size w wr)) (fun _ iv _ => F.length - (Lib.intOf iv).toNat)
  case atStart => exact ⟨0, Nat.zero_le _, rfl, HR, Below.refl _ _⟩
  case round =>
    clear HR
    obtain ⟨k, hk, rfl, hp, hB⟩ := hrel
    by_cases hlt : k < F.length
    · obtain ⟨a, rfl, ha1, ha2, d0⟩ := ((HF.out.below hB.out (Nat.le_refl _)).mono (Nat.le_refl _) hB.out.size) k hlt
      have hst := Ky.all_drop Ky.ok F k hlt
      rw [hp.out] at hst
      have cN := mkHid (implNoKey F[k] mx wr (Hsz.out _ (List.getElem_mem hlt)) ((hB.out.cell hlt0).trans Hm.out))
      have Hst := mkHid hst
      clear hst hp
      skip
      generalize Ky.ok F[k] = nb at *
      generalize F[k] = x at *
      go_wp2_with fail
      refine cN.out.mono ?_
      rintro e w1 ⟨rfl, hb1⟩
      have hB1 := mkHid (hB.out.trans (hb1.mono hB.out.size))
      clear cN hb1 hB
      cases nb
      · have hR : R = false := by rw [Hst.out, Bool.false_and]
        subst hR
        clear Hst
        go_wp2
        go_ret
        exact ⟨k, rfl, by simp, hB1.out⟩
      · have HN : Hid ((F.drop (k + 1)).all Ky.ok = R) := by show _ = _; rw [Hst.out, Bool.true_and]
        clear Hst
        go_wp2
        go_roundw
        case rel => exact ⟨k + 1, by omega, by go_num, HN, hB1⟩
        case measure => simp [Lib.intOf]; omega
    · have hR : R = true := by rw [← hp.out, List.drop_eq_nil_of_le (by omega)]; rfl
      subst hR
      clear hp
      go_wp2
      go_ret
      exact ⟨-1, rfl, rfl, hB.out⟩
set_option maxRecDepth 20000 in
theorem implContainsQT (o : Option Addr) (F : List ByteArray) (cap lo : Nat) (mx : Int) (w : World) (hF : TxL lo w.heap.size w o F) (hl : F.length ≤ 1048576) (hsz : ∀ t ∈ F, t.size ≤ 1048576) (hm : w.cell? ⟨0, 0, none⟩ = some (.int .i64 mx)) :
    Calls Tryz.prog 55 #[.slice o F.length cap, .func (.func 56) #[] #[]] w fun e w' => e = .returned (.bool (!F.all Ky.ok)) ∧ Below w.heap.size w w' := by
  have hI := mkHid (implIndexQT o F cap lo mx w hF hl hsz hm)
  clear hF hm hsz
  go_enter Tryz.func55, Tryz.ntmps55
  go_wp2_with fail
  refine hI.out.mono ?_
  rintro e w2 ⟨i, rfl, hi, hb⟩
  go_wp2
  go_ret
  exact ⟨by rw [← hi]; rfl, hb⟩
abbrev bxA (n : GAlias) (v : Value) : Obj := .cells #[.string n.name, v] 32
set_option maxRecDepth 20000 in
theorem boxA_cells (n : GAlias) (v : Value) (w w2 : World) (hb : Below (w.alloc (bxA n v)).heap.size (w.alloc (bxA n v)) w2) :
    w2.cell? ⟨w.heap.size, 0, none⟩ = some (.string n.name) ∧ w2.cell? ⟨w.heap.size, 1, none⟩ = some v := by
  refine ⟨(hb.cell (p := ⟨w.heap.size, 0, none⟩) (by simp)).trans ?_, (hb.cell (p := ⟨w.heap.size, 1, none⟩) (by simp)).trans ?_⟩ <;> simp
set_option maxRecDepth 20000 in
set_option maxHeartbeats 2000000 in
theorem implNoAlias (n : GAlias) (v : Value) (lo : Nat) (mx : Int) (w : World) (hI : GAliasIn lo w.heap.size w n v) (hf : n.fits 1048576) (hm : w.cell? ⟨0, 0, none⟩ = some (.int .i64 mx)) :
    Calls Tryz.prog 35 #[GAliasV n v] w fun e w' => e = .returned (.bool (!Ky.aok n)) ∧ Below w.heap.size w w' := by
  obtain ⟨⟨a1, c1, rfl, T1⟩⟩ := hI
  obtain ⟨f0, f1, f2⟩ := hf
  have hlt := bcell_lt hm
  obtain ⟨V, hV⟩ : ∃ V, w.alloc (bxA n (.slice a1 n.toF.length c1)) = V := ⟨_, rfl⟩
  have hbV : Below w.heap.size w V := by rw [← hV]; exact (Below.refl _ _).alloc (Nat.le_refl _) _
  have hmV : V.cell? ⟨0, 0, none⟩ = some (.int .i64 mx) := (hbV.cell hlt).trans hm
  have hK := mkHid (implIsKey n.name mx V f0 hmV)
  have HT := mkHid T1
  have Hm := mkHid hm
  have HC := mkHid (fun (W : World) (hb : Below V.heap.size V W) => boxA_cells n (.slice a1 n.toF.length c1) w W (by rw [hV]; exact hb))
  have HQ := mkHid (fun (W : World) (hb : Below w.heap.size w W) => implContainsQT a1 n.toF c1 lo mx W ((HT.out.below hb (Nat.le_refl _)).mono (Nat.le_refl _) hb.size) f1 f2 ((hb.cell hlt).trans Hm.out))
  clear hm hmV T1 f2
  unfold GAliasV Ky.aok
  have HV := mkHid hV
  have HbV := mkHid hbV
  clear hV hbV
  cases x1 : Ky.ok n.name
  · rw [x1] at hK
    clear x1
    go_enter Tryz.func35, Tryz.ntmps35
    go_wp2_with (go_at_call 19; go_must (rw [HV.out]; refine hK.out.mono ?_; rintro e w2 ⟨rfl, hb2⟩; obtain ⟨c0, c1⟩ := HC.out w2 hb2))
    go_ret
    exact ⟨rfl, HbV.out.trans (hb2.mono HbV.out.size)⟩
  · rw [x1] at hK
    clear x1
    by_cases x2 : n.toF.length ≤ 100
    · have y2 : decide ((100 : Int) < (n.toF.length : Int)) = false := by simp; omega
      rw [decide_eq_true x2]
      generalize n.toF.all Ky.ok = b at *
      go_enter Tryz.func35, Tryz.ntmps35
      go_wp2_with first | (go_at_call 19; go_must (rw [HV.out]; refine hK.out.mono ?_; rintro e w2 ⟨rfl, hb2⟩; obtain ⟨c0, c1⟩ := HC.out w2 hb2; have hbw := mkHid (HbV.out.trans (hb2.mono HbV.out.size)))) | (go_at_call 55; go_must (refine (HQ.out _ hbw.out).mono ?_; rintro e w3 ⟨rfl, hb3⟩))
      go_ret
      exact ⟨by simp, hbw.out.trans (hb3.mono hbw.out.size)⟩
    · have y2 : decide ((100 : Int) < (n.toF.length : Int)) = true := by simp; omega
      rw [decide_eq_false x2]
      go_enter Tryz.func35, Tryz.ntmps35
      go_wp2_with (go_at_call 19; go_must (rw [HV.out]; refine hK.out.mono ?_; rintro e w2 ⟨rfl, hb2⟩; obtain ⟨c0, c1⟩ := HC.out w2 hb2))
      go_ret
      exact ⟨rfl, HbV.out.trans (hb2.mono HbV.out.size)⟩
set_option maxRecDepth 20000 in
set_option maxHeartbeats 2000000 in
theorem implIndexQA (o : Option Addr) (F : List GAlias) (cap lo : Nat) (mx : Int) (w : World) (hF : GAliassL lo w.heap.size w o F) (hl : F.length ≤ 1048576) (hsz : ∀ t ∈ F, t.fits 1048576) (hm : w.cell? ⟨0, 0, none⟩ = some (.int .i64 mx)) :
    Calls Tryz.prog 54 #[.slice o F.length cap, .func (.func 35) #[] #[]] w fun e w' => ∃ i : Int, e = .returned (.int .i64 i) ∧ decide (0 ≤ i) = !F.all Ky.aok ∧ Below w.heap.size w w' := by
  have hE : ∀ (args : Array Value) (w : World), (callFunc 35 args).run Tryz.prog w = .ok (.enter 35 args) w := Go.Proofs.enters_of Tryz.func35 (by kernel_rfl) rfl
  have hlt0 := bcell_lt hm
  have HF := mkHid hF
  have Hm := mkHid hm
  have Hsz := mkHid hsz
  clear hF hm hsz
  obtain ⟨R, hR⟩ : ∃ R, F.all Ky.aok = R := ⟨_, rfl⟩
  have HR : Hid ((F.drop 0).all Ky.aok = R) := hR
  rw [hR]
  clear hR
  go_enter Tryz.func54, Tryz.ntmps54
  go_wp2
  go_loopw [5, 8] (fun _ iv wr => ∃ k : Nat, k ≤ F.length ∧ iv = .int .i64 k ∧ Hid ((F.drop k).all Ky.aok = R) ∧ Hid (Below w.heap.size w wr)) (fun _ iv _ => F.length - (Lib.intOf iv).toNat)
  case atStart => exact ⟨0, Nat.zero_le _, rfl, HR, Below.refl _ _⟩
  case round =>
    clear HR
    obtain ⟨k, hk, rfl, hp, hB⟩ := hrel
    by_cases hlt : k < F.length
    · obtain ⟨a, v1, rfl, ha1, ha2, hAt, hIn⟩ := ((HF.out.below hB.out (Nat.le_refl _)).mono (Nat.le_refl _) hB.out.size) k hlt
      have hst := Ky.all_drop Ky.aok F k hlt
      rw [hp.out] at hst
      have cN := mkHid (implNoAlias F[k] v1 lo mx wr hIn (Hsz.out _ (List.getElem_mem hlt)) ((hB.out.cell hlt0).trans Hm.out))
      have d0 := hAt.c0
      have d1 := hAt.c1
      clear hAt hIn
      have Hst := mkHid hst
      clear hst hp
      unfold GAliasV at cN
      generalize Ky.aok F[k] = nb at *
      generalize F[k] = x at *
      go_wp2_with fail
      refine cN.out.mono ?_
      rintro e w1 ⟨rfl, hb1⟩
      have hB1 := mkHid (hB.out.trans (hb1.mono hB.out.size))
      clear cN hb1 hB
      cases nb
      · have hR : R = false := by rw [Hst.out, Bool.false_and]
        subst hR
        clear Hst
        go_wp2
        go_ret
        exact ⟨k, rfl, by simp, hB1.out⟩
      · have HN : Hid ((F.drop (k + 1)).all Ky.aok = R) := by show _ = _; rw [Hst.out, Bool.true_and]
        clear Hst
        go_wp2
        go_roundw
        case rel => exact ⟨k + 1, by omega, by go_num, HN, hB1⟩
        case measure => simp [Lib.intOf]; omega
    · have hR : R = true := by rw [← hp.out, List.drop_eq_nil_of_le (by omega)]; rfl
      subst hR
      clear hp
      go_wp2
      go_ret
      exact ⟨-1, rfl, rfl, hB.out⟩
set_option maxRecDepth 20000 in
theorem implContainsQA (o : Option Addr) (F : List GAlias) (cap lo : Nat) (mx : Int) (w : World) (hF : GAliassL lo w.heap.size w o F) (hl : F.length ≤ 1048576) (hsz : ∀ t ∈ F, t.fits 1048576) (hm : w.cell? ⟨0, 0, none⟩ = some (.int .i64 mx)) :
    Calls Tryz.prog 34 #[.slice o F.length cap, .func (.func 35) #[] #[]] w fun e w' => e = .returned (.bool (!F.all Ky.aok)) ∧ Below w.heap.size w w' := by
  have hI := mkHid (implIndexQA o F cap lo mx w hF hl hsz hm)
  clear hF hm hsz
  go_enter Tryz.func34, Tryz.ntmps34
  go_wp2_with fail
  refine hI.out.mono ?_
  rintro e w2 ⟨i, rfl, hi, hb⟩
  go_wp2
  go_ret
  exact ⟨by rw [← hi]; rfl, hb⟩
set_option maxRecDepth 20000 in
set_option maxHeartbeats 1000000 in
theorem implAreAliases (o : Option Addr) (F : List GAlias) (cap lo : Nat) (mx : Int) (w : World) (hF : GAliassL lo w.heap.size w o F) (hl : F.length ≤ 1048576) (hsz : ∀ t ∈ F, t.fits 1048576) (hm : w.cell? ⟨0, 0, none⟩ = some (.int .i64 mx)) :
    Calls Tryz.prog 18 #[.slice o F.length cap] w fun e w' => e = .returned (.bool (Ky.asok F)) ∧ Below w.heap.size w w' := by
  have hI := mkHid (implContainsQA o F cap lo mx w hF hl hsz hm)
  clear hF hm hsz
  unfold Ky.asok
  by_cases x : F.length ≤ 100
  · have y : decide ((F.length : Int) ≤ 100) = true := by simp; omega
    rw [decide_eq_true x]
    generalize F.all Ky.aok = b at *
    go_enter Tryz.func18, Tryz.ntmps18
    go_wp2_with (go_at_call 34; go_must (refine hI.out.mono ?_; rintro e w2 ⟨rfl, hb2⟩))
    go_ret
    exact ⟨by simp, hb2⟩
  · have y : decide ((F.length : Int) ≤ 100) = false := by simp; omega
    rw [decide_eq_false x]
    clear hI
    go_enter Tryz.func18, Tryz.ntmps18
    go_wp2
    go_ret
    exact ⟨rfl, Below.refl _ _⟩
end Go.Proofs.YtdjghniinnfncaaGreatDoor
namespace Go.Proofs.YtdjghniinnfncaaGreatDoor
open Go.RowKit Go.Lib Go.Maps
set_option maxRecDepth 20000 in
theorem OwnX.base {B B' : Nat} {v : Value} {F : List ByteArray} {w : World} (h : OwnX B v F w) (hB : B' ≤ B) : OwnX B' v F w := by
  obtain ⟨h1, h2⟩ := h
  refine ⟨h1, ?_⟩
  rcases h2 with h2 | ⟨k, cap, cur, e, hk, r⟩
  · exact .inl h2
  · exact .inr ⟨k, cap, cur, e, Nat.le_trans hB hk, r⟩
set_option maxRecDepth 20000 in
theorem make_set (w : World) : (Instr.makeMap 73 none).run Tryz.prog w = .ok (.map (some w.heap.size)) (w.alloc (.map #[] 0)) := by first | kernel_rfl | rfl
def Ex.run (A : List GAlias) (K : List ByteArray) : Ex.St × Int := Ex.all (Ex.go A 20 []) ⟨[], []⟩ K
set_option maxRecDepth 20000 in
theorem Ex.start_inv (A : List GAlias) : Ex.Inv A [] ⟨[], []⟩ := ⟨List.nodup_nil, fun k hk => by simp at hk, by simp⟩
set_option maxHeartbeats 4000000 in
set_option maxRecDepth 20000 in
theorem implExpandB (lo hi b0 n0 : Nat) (A : List GAlias) (o : Option Addr) (K : List ByteArray) (cap lo2 hi2 : Nat) (w : World) (hBk : Book lo hi w b0 n0 A) (hhi : hi ≤ b0) (hA : A.length ≤ 100) (hT : TextsOk A) (hK : TxL lo2 hi2 w o K) (hhi2 : hi2 ≤ w.heap.size) (hKl : K.length ≤ 1048576) (hKs : ∀ t ∈ K, t.size ≤ 1048576) :
    Calls Tryz.prog 21 #[.map (some b0), .slice o K.length cap] w fun e w' => Hid (∃ (oo : Option Addr) (P : List ByteArray) (cc : Nat), e = .returned (.tuple #[.slice oo P.length cc, .int .i64 (Ex.run A K).2]) ∧ P = (if (Ex.run A K).2 = 0 then (Ex.run A K).1.out else []) ∧ P.length ≤ 200 ∧ OwnX w.heap.size (.slice oo P.length cc) P w' ∧ Below w.heap.size w w') := by
  have hb0 := hBk.lt
  obtain ⟨p, hp⟩ : ∃ p : Pl5, p = ⟨lo, hi, b0, w.heap.size, w.heap.size + 1, w.heap.size + 2, w.heap.size + 3, n0⟩ := ⟨_, rfl⟩
  have hpo : p.ok := by rw [hp]; exact ⟨hhi, hb0, Nat.lt_succ_self _, Nat.lt_succ_self _, Nat.lt_succ_self _⟩
  obtain ⟨W, hW⟩ : ∃ W, W = (((w.alloc (.map #[] 0)).alloc (.map #[] 0)).alloc (.map #[] 0)).alloc (.cells #[.map (some b0), .map (some w.heap.size), .map (some (w.heap.size + 1)), .map (some (w.heap.size + 2)), .slice none 0 0] 75) := ⟨_, rfl⟩
  have a1 : Below w.heap.size w (w.alloc (.map #[] 0)) := (Below.refl _ _).alloc (Nat.le_refl _) _
  have a2 := a1.alloc a1.size (.map #[] 0)
  have a3 := a2.alloc a2.size (.map #[] 0)
  have hbW : Below w.heap.size w W := by rw [hW]; exact a3.alloc a3.size _
  have gA : ∀ (v : World) (ob : Obj), Below v.heap.size v (v.alloc ob) := fun v ob => (Below.refl _ _).alloc (Nat.le_refl _) _
  have e1 : (w.alloc (.map #[] 0)).heap.size = w.heap.size + 1 := by simp
  have e2 : ((w.alloc (.map #[] 0)).alloc (.map #[] 0)).heap.size = w.heap.size + 2 := by simp
  have e3 : (((w.alloc (.map #[] 0)).alloc (.map #[] 0)).alloc (.map #[] 0)).heap.size = w.heap.size + 3 := by simp
  have hE : Ep p A [] ⟨[], []⟩ W := by
    rw [hp]
    refine ⟨⟨none, 0, ?_, OwnX.nil _ _⟩, hBk.kept (gr_of_below hbW) (by simp) (Same.of_below hbW (by omega)), ?_, ?_, ?_⟩
    · have := heap_alloc_at (((w.alloc (.map #[] 0)).alloc (.map #[] 0)).alloc (.map #[] 0)) (.cells #[.map (some b0), .map (some w.heap.size), .map (some (w.heap.size + 1)), .map (some (w.heap.size + 2)), .slice none 0 0] 75)
      rw [e3] at this
      rw [hW]
      exact this
    · rw [hW]
      exact (((SetT.made w).below (gA _ _)).below (gA _ _)).below (gA _ _)
    · have := SetT.made (w.alloc (.map #[] 0))
      rw [e1] at this
      rw [hW]
      exact (this.below (gA _ _)).below (gA _ _)
    · have := SetT.made ((w.alloc (.map #[] 0)).alloc (.map #[] 0))
      rw [e2] at this
      rw [hW]
      exact this.below (gA _ _)
  have cF := mkHid (implFollowAll p A 20 (implFollow p A hpo hA hT 20) [] ⟨[], []⟩ o K cap lo2 hi2 W rfl hE (Ex.start_inv A) (by simp) (hK.below hbW hhi2) (by rw [hp]; exact hhi2) hKl hKs)
  have hfew := (Ex.all_inv A [] _ (fun s' k' => Ex.go_inv A 20 [] s' k') K ⟨[], []⟩ (Ex.start_inv A) (by simp)).2
  rw [show Ex.all (Ex.go A 20 []) ⟨[], []⟩ K = Ex.run A K from rfl] at cF hfew
  rw [show p.g = w.heap.size + 3 by rw [hp]] at cF
  have hpg : p.g = w.heap.size + 3 := by rw [hp]
  have hpb : p.b1 = w.heap.size := by rw [hp]
  have hm := mkHid make_set
  have HW := mkHid hW.symm
  have HbW := mkHid hbW
  generalize Ex.run A K = r at *
  clear a1 a2 a3 hW hbW hE hp gA hBk hK
  have hm1 := hm.out w
  have hm2 := hm.out (w.alloc (.map #[] 0))
  have hm3 := hm.out ((w.alloc (.map #[] 0)).alloc (.map #[] 0))
  rw [e1] at hm2
  rw [e2] at hm3
  go_enter Tryz.func21, Tryz.ntmps21
  go_wp2_with fail
  rw [HW.out]
  refine cF.out.mono ?_
  rintro e w1 ⟨rfl, hE1, hB1⟩
  have hB2 := mkHid (HbW.out.trans (by rw [← hpb]; exact hB1.out))
  obtain ⟨o1, c1, q1, q2⟩ := hE1.out.blk
  obtain ⟨-, -, -, -, k4⟩ := cells5 q1
  rw [hpg] at k4
  have hown := mkHid (q2.base (show w.heap.size ≤ p.g + 1 by omega))
  clear cF hE1 hB1 q1 q2 HW HbW hm hm1 hm2 hm3
  by_cases hr : r.2 = 0
  · have b0 : (r.2 != 0) = false := by rw [hr]; rfl
    go_wp2
    go_ret2
    refine mkHid ⟨o1, r.1.out, c1, by first | rfl | rw [hr], by first | rfl | rw [if_pos hr], hfew, hown.out, hB2.out⟩
  · have b0 : (r.2 != 0) = true := by simp [hr]
    go_wp2
    go_ret2
    refine mkHid ⟨none, [], 0, rfl, by first | rfl | rw [if_neg hr], by simp, OwnX.nil _ _, hB2.out⟩
/-- The code, and what an address stands for. -/
def Ex.ans (A : List GAlias) (k : ByteArray) : Int × List ByteArray := if Ky.asok A && Ky.ok k then ((Ex.run A [k]).2, if (Ex.run A [k]).2 = 0 then (Ex.run A [k]).1.out else []) else (1, [])
set_option maxRecDepth 20000 in
theorem asok_few {A : List GAlias} (h : Ky.asok A = true) : A.length ≤ 100 := by
  unfold Ky.asok at h
  rw [Bool.and_eq_true, decide_eq_true_eq] at h
  exact h.1
set_option maxHeartbeats 4000000 in
set_option maxRecDepth 20000 in
theorem implExpand (o : Option Addr) (A : List GAlias) (cap lo : Nat) (k : ByteArray) (mx : Int) (w : World) (hF : GAliassL lo w.heap.size w o A) (hl : A.length ≤ 1048576) (hsz : ∀ t ∈ A, t.fits 1048576) (hk1 : k.size ≤ 1048576) (hm : w.cell? ⟨0, 0, none⟩ = some (.int .i64 mx)) :
    Calls Tryz.prog 5 #[.slice o A.length cap, .string k] w fun e w' => Hid (∃ (oo : Option Addr) (cc : Nat), e = .returned (.agg #[.int .i64 (Ex.ans A k).1, .slice oo (Ex.ans A k).2.length cc]) ∧ (Ex.ans A k).2.length ≤ 200 ∧ OwnX w.heap.size (.slice oo (Ex.ans A k).2.length cc) (Ex.ans A k).2 w' ∧ Below w.heap.size w w') := by
  have hlt := bcell_lt hm
  obtain ⟨V, hV⟩ : ∃ V, V = w.alloc (.cells #[.int .i64 0, .slice none 0 0] 28) := ⟨_, rfl⟩
  have hbV : Below w.heap.size w V := by rw [hV]; exact (Below.refl _ _).alloc (Nat.le_refl _) _
  have hVs : V.heap.size = w.heap.size + 1 := by rw [hV]; simp
  have hrV : V.heap[w.heap.size]? = some (.cells #[.int .i64 0, .slice none 0 0] 28 (0, 0)) := by rw [hV]; exact heap_alloc_at _ _
  have cA := mkHid (implAreAliases o A cap lo mx V ((hF.below hbV (Nat.le_refl _)).mono (Nat.le_refl _) hbV.size) hl hsz ((hbV.cell hlt).trans hm))
  have cK := mkHid (fun (W : World) (hb : Below w.heap.size w W) => implIsKey k mx W hk1 ((hb.cell hlt).trans hm))
  have HV := mkHid hV.symm
  have HF := mkHid hF
  have Hsz := mkHid hsz
  have HbV := mkHid hbV
  obtain ⟨R, hR⟩ : ∃ R, Ex.ans A k = R := ⟨_, rfl⟩
  rw [hR]
  unfold Ex.ans at hR
  clear hV hF hsz hbV hm
  cases x1 : Ky.asok A
  · rw [x1] at cA hR
    have HR : Hid ((1, []) = R) := show _ = _ from by rw [← hR]; rfl
    clear hR x1
    go_enter Tryz.func5, Tryz.ntmps5
    go_wp2_with fail
    rw [HV.out]
    refine cA.out.mono ?_
    rintro e w1 ⟨rfl, hb1⟩
    have hr1 := (hb1.block w.heap.size (show w.heap.size < V.heap.size by omega)).trans hrV
    have hB1 := mkHid (HbV.out.trans (hb1.mono HbV.out.size))
    clear cA hb1 cK
    go_wp2_with (first | (refine wpL_store_row rfl 28 _ _ rfl w.heap.size #[.int .i64 1, .slice none 0 0] rfl rfl 28 _ hr1 (by kernel_rfl) rfl (by simp [Value.oneCell']) ?_) | go_in)
    refine bodyPost_ret (v := .agg #[.int .i64 1, .slice none 0 0]) (results_cell_row Tryz.results5 _ _ w.heap.size 28 _ (0, 0) _ rfl (setRow_heap _ _ _ _ _ _ hr1) Tryz.underlying28 rfl (by kernel_rfl)) rfl ?_
    rw [← HR.out]
    exact mkHid ⟨none, 0, rfl, by simp, OwnX.nil _ _, hB1.out.grown (grown_setRow _ _ _) hB1.out.size (fun j hj => by cases hj; exact Nat.le_refl _)⟩
  · rw [x1] at cA hR
    cases x2 : Ky.ok k
    · rw [x2] at cK hR
      have HR : Hid ((1, []) = R) := show _ = _ from by rw [← hR]; rfl
      clear hR x1 x2
      go_enter Tryz.func5, Tryz.ntmps5
      go_wp2_with fail
      rw [HV.out]
      refine cA.out.mono ?_
      rintro e w1 ⟨rfl, hb1⟩
      have hr1 := (hb1.block w.heap.size (show w.heap.size < V.heap.size by omega)).trans hrV
      have hB1 := mkHid (HbV.out.trans (hb1.mono HbV.out.size))
      have hl1 : w.heap.size < w1.heap.size := heap_lt hr1
      clear cA hb1
      go_wp2_with fail
      refine (cK.out w1 hB1.out).mono ?_
      rintro e w2 ⟨rfl, hb2⟩
      have hr2 := (hb2.block w.heap.size hl1).trans hr1
      have hB2 := mkHid (hB1.out.trans (hb2.mono hB1.out.size))
      clear cK hb2 hB1 hr1
      go_wp2_with (first | (refine wpL_store_row rfl 28 _ _ rfl w.heap.size #[.int .i64 1, .slice none 0 0] rfl rfl 28 _ hr2 (by kernel_rfl) rfl (by simp [Value.oneCell']) ?_) | go_in)
      refine bodyPost_ret (v := .agg #[.int .i64 1, .slice none 0 0]) (results_cell_row Tryz.results5 _ _ w.heap.size 28 _ (0, 0) _ rfl (setRow_heap _ _ _ _ _ _ hr2) Tryz.underlying28 rfl (by kernel_rfl)) rfl ?_
      rw [← HR.out]
      exact mkHid ⟨none, 0, rfl, by simp, OwnX.nil _ _, hB2.out.grown (grown_setRow _ _ _) hB2.out.size (fun j hj => by cases hj; exact Nat.le_refl _)⟩
    · rw [x2] at cK hR
      have hA := asok_few x1
      have hT : TextsOk A := fun al hal => by
        obtain ⟨f1, f2, f3⟩ := Hsz.out al hal
        exact ⟨f1, f2, f3⟩
      have HR : Hid (((Ex.run A [k]).2, if (Ex.run A [k]).2 = 0 then (Ex.run A [k]).1.out else []) = R) := show _ = _ from by rw [← hR]; rfl
      clear hR x1 x2
      go_enter Tryz.func5, Tryz.ntmps5
      go_wp2_with fail
      rw [HV.out]
      refine cA.out.mono ?_
      rintro e w1 ⟨rfl, hb1⟩
      have hr1 := (hb1.block w.heap.size (show w.heap.size < V.heap.size by omega)).trans hrV
      have hB1 := mkHid (HbV.out.trans (hb1.mono HbV.out.size))
      have hl1 : w.heap.size < w1.heap.size := heap_lt hr1
      clear cA hb1
      go_wp2_with fail
      refine (cK.out w1 hB1.out).mono ?_
      rintro e w2 ⟨rfl, hb2⟩
      have hr2 := (hb2.block w.heap.size hl1).trans hr1
      have hB2 := mkHid (hB1.out.trans (hb2.mono hB1.out.size))
      have hl2 : w.heap.size < w2.heap.size := heap_lt hr2
      have cB := mkHid (implBookOf o A cap lo w2 ((HF.out.below hB2.out (Nat.le_refl _)).mono (Nat.le_refl _) hB2.out.size) hA (fun t ht => (hT t ht).1))
      clear cK hb2 hB1 hr1
      go_wp2_with fail
      refine cB.out.mono ?_
      rintro e w3 ⟨n0, hn0, rfl, hBk, hb3⟩
      have hr3 := (hb3.block w.heap.size hl2).trans hr2
      have hB3 := mkHid (hB2.out.trans (hb3.mono hB2.out.size))
      have hl3 : w.heap.size < w3.heap.size := heap_lt hr3
      obtain ⟨Y, hY⟩ : ∃ Y, Y = w3.alloc (.cells #[.string k] 9) := ⟨_, rfl⟩
      have hbY : Below w3.heap.size w3 Y := by rw [hY]; exact (Below.refl _ _).alloc (Nat.le_refl _) _
      have hYs : Y.heap.size = w3.heap.size + 1 := by rw [hY]; simp
      have hTxY : TxL 0 Y.heap.size Y (some ⟨w3.heap.size, 0, none⟩) [k] := by
        intro i hi
        obtain rfl : i = 0 := by simpa using hi
        refine ⟨_, rfl, Nat.zero_le _, by show w3.heap.size < _; omega, ?_⟩
        rw [hY]
        simp [Addr.add]
      have hs3 := hb3.size
      have cE := mkHid (implExpandB lo w2.heap.size w2.heap.size n0 A (some ⟨w3.heap.size, 0, none⟩) [k] 1 0 Y.heap.size Y (hBk.out.kept (gr_of_below hbY) (by simp) (Same.of_below hbY hs3)) (Nat.le_refl _) hA hT hTxY (Nat.le_refl _) (by simp) (fun t ht => by simp at ht; rw [ht]; exact hk1))
      have hrY := (hbY.block w.heap.size hl3).trans hr3
      have hBY := mkHid (hB3.out.trans (hbY.mono hB3.out.size))
      have hlY : w.heap.size < Y.heap.size := heap_lt hrY
      have HY := mkHid hY.symm
      clear cB hb3 hB2 hr2 hBk hY hbY hTxY hB3 hr3
      go_wp2_with fail
      rw [HY.out]
      refine cE.out.mono ?_
      rintro e w4 hx
      obtain ⟨oo, P, cc, rfl, hP, hP2, hown, hb4⟩ := hx.out
      have hr4 := (hb4.block w.heap.size hlY).trans hrY
      have hB4 := mkHid (hBY.out.trans (hb4.mono hBY.out.size))
      have hown4 := mkHid (hown.base (show w.heap.size + 1 ≤ Y.heap.size by omega))
      have HR2 : Hid (((Ex.run A [k]).2, P) = R) := show _ = _ from by rw [hP]; exact HR.out
      clear cE hx hP hown hb4 HY hBY hrY HR
      generalize (Ex.run A [k]).2 = code at *
      go_wp2_with (first | (refine wpL_store_row rfl 28 _ _ rfl w.heap.size #[.int .i64 code, .slice oo P.length cc] rfl rfl 28 _ hr4 (by kernel_rfl) rfl (by simp [Value.oneCell']) ?_) | go_in)
      refine bodyPost_ret (v := .agg #[.int .i64 code, .slice oo P.length cc]) (results_cell_row Tryz.results5 _ _ w.heap.size 28 _ (0, 0) _ rfl (setRow_heap _ _ _ _ _ _ hr4) Tryz.underlying28 rfl (by kernel_rfl)) rfl ?_
      rw [← HR2.out]
      have hset := grown_setRow w4 w.heap.size #[.int .i64 code, .slice oo P.length cc]
      exact mkHid ⟨oo, cc, rfl, hP2, (hown4.out.keep hset (own_ne hown4.out (by omega))).base (by omega), hB4.out.grown hset hB4.out.size (fun j hj => by cases hj; exact Nat.le_refl _)⟩
end Go.Proofs.YtdjghniinnfncaaGreatDoor
namespace Go.Proofs.YtdjghniinnfncaaGreatDoor
open Go.RowKit Go.Lib Go.Maps
set_option maxRecDepth 20000 in
theorem eq_same (x y : ByteArray) : (x.toList == y.toList) = Ex.same x y := by
  rw [ByteArray.toList_eq, ByteArray.toList_eq]
  rfl
set_option maxRecDepth 20000 in
set_option maxHeartbeats 1000000 in
theorem specIn (o : Option Addr) (F : List ByteArray) (cap lo hi : Nat) (k : ByteArray) (w : World) (hF : TxL lo hi w o F) (hl : F.length ≤ 1048576) :
    Calls Tryz.prog 32 #[.slice o F.length cap, .string k] w fun e w' => e = .returned (.bool (Ex.isIn F k)) ∧ w = w' := by
  obtain ⟨R, hR⟩ : ∃ R, Ex.isIn F k = R := ⟨_, rfl⟩
  rw [hR]
  have HR : Hid (Ex.isIn (F.drop 0) k = R) := hR
  have HF := mkHid hF
  clear hF hR
  go_enter Tryz.func32, Tryz.ntmps32
  go_wp2
  go_loopw [5] (fun iv wr => ∃ i : Nat, i ≤ F.length ∧ iv = .int .i64 i ∧ Hid (Ex.isIn (F.drop i) k = R) ∧ wr = w) (fun iv _ => F.length - (Lib.intOf iv).toNat)
  case atStart => exact ⟨0, Nat.zero_le _, rfl, HR, rfl⟩
  case round =>
    clear HR
    obtain ⟨i, hi, rfl, hRi, rfl⟩ := hrel
    by_cases hlt : i < F.length
    · obtain ⟨a, rfl, ha1, ha2, c0⟩ := HF.out i hlt
      have hst : Hid ((Ex.same F[i] k || Ex.isIn (F.drop (i + 1)) k) = R) := show _ = _ from by rw [← hRi.out, List.drop_eq_getElem_cons hlt]; rfl
      clear hRi
      have heq := eq_same F[i] k
      generalize Ex.same F[i] k = b at *
      generalize F[i] = x at *
      cases b
      · have hR2 : Hid (Ex.isIn (F.drop (i + 1)) k = R) := show _ = _ from by rw [← hst.out, Bool.false_or]
        clear hst
        go_wp2
        go_roundw
        case rel => exact ⟨i + 1, by omega, by go_num, hR2, trivial⟩
        case measure => simp [Lib.intOf]; omega
      · have hR2 : R = true := by rw [← hst.out, Bool.true_or]
        subst hR2
        clear hst
        go_wp2
        go_ret
        exact ⟨rfl, rfl⟩
    · have hR2 : R = false := by rw [← hRi.out, List.drop_eq_nil_of_le (by omega)]; rfl
      subst hR2
      clear hRi
      go_wp2
      go_ret
      exact ⟨rfl, rfl⟩
set_option maxRecDepth 20000 in
theorem OwnX.cut {B : Nat} {o : Option Addr} {c n m : Nat} {P : List ByteArray} {k : ByteArray} {w : World} (h : OwnX B (.slice o n c) (P ++ [k]) w) (hm : m = P.length) : OwnX B (.slice o m c) P w := by
  subst hm
  obtain ⟨h1, h2⟩ := h
  refine ⟨by simp [strCellsX], ?_⟩
  rcases h2 with ⟨h2, h3⟩ | ⟨g, cap, cur, e, hB, hg, hn, hcm, hcs, ht⟩
  · simp at h3
  · rw [List.length_append] at hn ht
    simp only [Value.slice.injEq] at e
    obtain ⟨rfl, -, rfl⟩ := e
    refine .inr ⟨g, c, cur, rfl, hB, hg, by simp at hn; omega, hcm, hcs, ?_⟩
    have := congrArg (List.take (P.length * 1)) ht
    rw [List.take_take] at this
    simp only [Nat.mul_one, List.length_cons, List.length_nil] at this ⊢
    rw [Nat.min_eq_left (by omega)] at this
    rw [this]
    simp [strCellsX]
def Apart (u v : Value) : Prop := ∀ k, u.ownBlock = some k → v.ownBlock ≠ some k
set_option maxRecDepth 20000 in
theorem Apart.symm {u v : Value} (h : Apart u v) : Apart v u := fun k hv hu => h k hu hv
set_option maxRecDepth 20000 in
theorem Apart.keep {u v : Value} (h : Apart u v) : u.ownBlock = none ∨ u.ownBlock ≠ v.ownBlock := by
  cases hu : u.ownBlock with
  | none => exact .inl rfl
  | some k => exact .inr (fun e => h k hu e.symm)
set_option maxRecDepth 20000 in
/-- An append, and where its row lies. -/
theorem wp_appXat {w : World} {ops : Array Oper} {rest : List Oper} {o : Oper} {a : Act} {Q : Exit → Act → World → Prop} (hgd : o.guard = none) (s x : Operand)
    (ho : o.op = .call { callee := .builtin .append, args := #[s, x], argTypes := #[26, 26] })
    (B : Nat) (v : Value) (C : List ByteArray) (hs : a.eval s = v) (hown : OwnX B v C w) (u : ByteArray)
    (c : Nat) (hx : a.eval x = .slice (some ⟨w.heap.size, 0, none⟩) 1 c) (hlen : C.length ≤ 1000000) (hB : B ≤ w.heap.size)
    (h : ∀ v' w', OwnX B v' (C ++ [u]) w' → (w.alloc (.cells #[.string u] 9)).grownBy w' v.ownBlock → (v'.ownBlock = v.ownBlock ∨ v'.ownBlock = some (w.alloc (.cells #[.string u] 9)).heap.size) → wpList Tryz.prog ops Q rest (a.put o.dst v') w') : wpList Tryz.prog ops Q (o :: rest) a (w.alloc (.cells #[.string u] 9)) := by
  obtain ⟨i0, hi0, hz0, hz1, hz2⟩ := info_parts Tryz.info9X
  unfold OwnX at hown
  refine wpList_append_own_at _ hgd s x 26 ho B 9 i0 (.string ⟨#[]⟩) 1 16 Tryz.underlying26 hi0 hz0 hz1 hz2 rfl (by decide) v C.length (strCellsX C) hs (World.ownsRow.alloc hown _) ⟨w.heap.size, 0, none⟩ 1 c [.string u] hx
    rfl (cell_one_new w (.string u) 9) ?_ (by unfold maxLen; omega) (by omega) (by simp; omega) ?_
  · intro y hy
    simp at hy
    subst hy
    rfl
  · intro v' w' h1 h2 _ h4
    refine h v' w' ?_ h2 h4
    unfold OwnX strCellsX
    rw [List.map_append, List.length_append]
    exact h1
namespace Ex
set_option maxRecDepth 20000 in
theorem find_none (A : List GAlias) (k : ByteArray) (h : ∀ (j : Nat) (hj : j < A.length), same A[j].name k = false) : find A k = none := by
  unfold find
  rw [List.find?_eq_none]
  intro a ha
  obtain ⟨j, hj, rfl⟩ := List.mem_iff_getElem.1 ha
  rw [h j hj]
  simp
set_option maxRecDepth 20000 in
theorem find_some (A : List GAlias) (k : ByteArray) (a : Nat) (ha : a < A.length) (hs : same A[a].name k = true) (h : ∀ (j : Nat) (hj : j < A.length), j < a → same A[j].name k = false) : find A k = some A[a] := by
  unfold find
  rw [List.find?_eq_some_iff_getElem]
  exact ⟨hs, a, ha, rfl, fun j hj => by rw [h j (by omega) hj]; rfl⟩
end Ex
end Go.Proofs.YtdjghniinnfncaaGreatDoor
