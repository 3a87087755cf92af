
/- Mails that can't be sent: the program's tests. (By tools/gen/implclient.py.) -/
import Derived.Test.YthgjflgidalmlaaDoorClientPlain2
import Derived.Test.YthgjflgidalmlaaDoorImplKeyFault
namespace Go.Proofs.YthgjflgidalmlaaDoor
open Go.RowKit Go.Lib Go.Maps
set_option maxRecDepth 20000 in
theorem Ct.all_drop {α : Type} (K : α → Bool) (F : List α) (k : Nat) (h : k < F.length) : (F.drop k).all K = (K F[k] && (F.drop (k + 1)).all K) := by
  rw [List.drop_eq_getElem_cons h, List.all_cons]
set_option maxRecDepth 20000 in
theorem implFromToC (z a b : Int) (w : World) : Calls Tryd.prog 16 #[.int .i64 z, .int .i64 a, .int .i64 b] w fun e w' => e = .returned (.bool (decide (a ≤ z) && decide (z ≤ b))) ∧ w = w' := by
  by_cases h1 : a ≤ z
  · have u1 := decide_eq_true h1
    rw [u1]
    go_enter Tryd.func16, Tryd.ntmps16
    go_wp2
    go_ret
    exact ⟨rfl, rfl⟩
  · have u1 := decide_eq_false h1
    rw [u1]
    go_enter Tryd.func16, Tryd.ntmps16
    go_wp2
    go_ret
    exact ⟨rfl, rfl⟩
set_option maxRecDepth 20000 in
theorem implTooLongC (s : ByteArray) (w : World) (hs : s.size ≤ 1100000) : Calls Tryd.prog 37 #[.string s] w fun e w' => e = .returned (.bool (!decide (s.size ≤ 100000))) ∧ w = w' := by
  have e : (!decide (s.size ≤ 100000)) = decide ((100000 : Int) < (s.size : Int)) := by
    rw [← decide_not]
    apply decide_eq_decide.2
    omega
  rw [e]
  go_enter Tryd.func37, Tryd.ntmps37
  go_wp2
  go_ret
  exact ⟨rfl, rfl⟩
set_option maxRecDepth 20000 in
theorem Ct.ends_eq (s : ByteArray) : hasSuffix s.data.toList [13, 10] = endsLine s := by
  unfold endsLine hasSuffix
  have hl : s.data.toList.length = s.size := by simp
  by_cases h : 2 ≤ s.size
  · rw [decide_eq_true h, Bool.true_and, Pl.ext_list, Bool.eq_iff_iff, List.isSuffixOf_iff_suffix, beq_iff_eq]
    rw [show s.size - (s.size - 2) = 2 by omega]
    constructor
    · rintro ⟨t, ht⟩
      have h1 : t.length = s.size - 2 := by have := congrArg List.length ht; simp at this; omega
      rw [← ht, ← h1, List.drop_left]
      rfl
    · intro e
      refine ⟨s.data.toList.take (s.size - 2), ?_⟩
      rw [List.take_of_length_le (by simp; omega)] at e
      rw [← e]
      exact List.take_append_drop _ _
  · rw [decide_eq_false h, Bool.false_and, Bool.eq_false_iff]
    intro e
    have := (List.isSuffixOf_iff_suffix.1 e).length_le
    simp at this
    omega
set_option maxRecDepth 20000 in
theorem libEnds (s : ByteArray) (w : World) (hs : s.size ≤ 1100000) :
    Calls Tryd.prog 36 #[.string s, .string ⟨#[13, 10]⟩] w fun e w' => e = .returned (.bool (endsLine s)) ∧ w = w' := by
  refine (Tryd.strings_HasSuffix s ⟨#[13, 10]⟩ w (by omega)).mono ?_
  rintro e w' ⟨rfl, hw⟩
  rw [show Lib.hasSuffix s.data.toList (⟨#[13, 10]⟩ : ByteArray).data.toList = endsLine s from Ct.ends_eq s]
  exact ⟨rfl, hw.symm⟩
set_option maxRecDepth 20000 in
theorem implNoKey (s : ByteArray) (mx : Int) (w : World) (hs : s.size ≤ 1048576) (hm : w.cell? ⟨0, 0, none⟩ = some (.int .i64 mx)) :
    Calls Tryd.prog 35 #[.string s] w fun e w' => e = .returned (.bool (!Ky.ok s)) ∧ Below w.heap.size w w' := by
  have hK := mkHid (implIsKey s mx w hs hm)
  clear hm
  generalize Ky.ok s = b at *
  go_enter Tryd.func35, Tryd.ntmps35
  go_wp2_with fail
  refine hK.out.mono ?_
  rintro e w2 ⟨rfl, hb⟩
  go_wp2
  go_ret
  exact ⟨rfl, hb⟩
set_option maxRecDepth 20000 in
set_option maxHeartbeats 2000000 in
theorem implIndexQT (o : Option Addr) (F : List ByteArray) (cap lo : Nat) (mx : Int) (w : World) (hF : TxL lo w.heap.size w o F) (hl : F.length ≤ 1048576) (hsz : ∀ t ∈ F, t.size ≤ 1048576) (hm : w.cell? ⟨0, 0, none⟩ = some (.int .i64 mx)) :
    Calls Tryd.prog 55 #[.slice o F.length cap, .func (.func 35) #[] #[]] w fun e w' => ∃ i : Int, e = .returned (.int .i64 i) ∧ decide (0 ≤ i) = !F.all Ky.ok ∧ Below w.heap.size w w' := by
  have hE : ∀ (args : Array Value) (w : World), (callFunc 35 args).run Tryd.prog w = .ok (.enter 35 args) w := Go.Proofs.enters_of Tryd.func35 (by kernel_rfl) rfl
  have hlt0 := bcell_lt hm
  have HF := mkHid hF
  have Hm := mkHid hm
  have Hsz := mkHid hsz
  clear hF hm hsz
  obtain ⟨R, hR⟩ : ∃ R, F.all Ky.ok = R := ⟨_, rfl⟩
  have HR : Hid ((F.drop 0).all Ky.ok = R) := hR
  rw [hR]
  clear hR
  go_enter Tryd.func55, Tryd.ntmps55
  go_wp2
  go_loopw [5, 8] (fun _ iv wr => ∃ k : Nat, k ≤ F.length ∧ iv = .int .i64 k ∧ Hid ((F.drop k).all Ky.ok = R) ∧ Hid (Below w.heap.size w wr)) (fun _ iv _ => F.length - (Lib.intOf iv).toNat)
  case atStart => exact ⟨0, Nat.zero_le _, rfl, HR, Below.refl _ _⟩
  case round =>
    clear HR
    obtain ⟨k, hk, rfl, hp, hB⟩ := hrel
    by_cases hlt : k < F.length
    · obtain ⟨a, rfl, ha1, ha2, d0⟩ := ((HF.out.below hB.out (Nat.le_refl _)).mono (Nat.le_refl _) hB.out.size) k hlt
      have hst := Ct.all_drop Ky.ok F k hlt
      rw [hp.out] at hst
      have cN := mkHid (implNoKey F[k] mx wr (Hsz.out _ (List.getElem_mem hlt)) ((hB.out.cell hlt0).trans Hm.out))
      have Hst := mkHid hst
      clear hst hp
      skip
      generalize Ky.ok F[k] = nb at *
      generalize F[k] = x at *
      go_wp2_with fail
      refine cN.out.mono ?_
      rintro e w1 ⟨rfl, hb1⟩
      have hB1 := mkHid (hB.out.trans (hb1.mono hB.out.size))
      clear cN hb1 hB
      cases nb
      · have hR : R = false := by rw [Hst.out, Bool.false_and]
        subst hR
        clear Hst
        go_wp2
        go_ret
        exact ⟨k, rfl, by simp, hB1.out⟩
      · have HN : Hid ((F.drop (k + 1)).all Ky.ok = R) := by show _ = _; rw [Hst.out, Bool.true_and]
        clear Hst
        go_wp2
        go_roundw
        case rel => exact ⟨k + 1, by omega, by go_num, HN, hB1⟩
        case measure => simp [Lib.intOf]; omega
    · have hR : R = true := by rw [← hp.out, List.drop_eq_nil_of_le (by omega)]; rfl
      subst hR
      clear hp
      go_wp2
      go_ret
      exact ⟨-1, rfl, rfl, hB.out⟩
set_option maxRecDepth 20000 in
theorem implContainsQT (o : Option Addr) (F : List ByteArray) (cap lo : Nat) (mx : Int) (w : World) (hF : TxL lo w.heap.size w o F) (hl : F.length ≤ 1048576) (hsz : ∀ t ∈ F, t.size ≤ 1048576) (hm : w.cell? ⟨0, 0, none⟩ = some (.int .i64 mx)) :
    Calls Tryd.prog 34 #[.slice o F.length cap, .func (.func 35) #[] #[]] w fun e w' => e = .returned (.bool (!F.all Ky.ok)) ∧ Below w.heap.size w w' := by
  have hI := mkHid (implIndexQT o F cap lo mx w hF hl hsz hm)
  clear hF hm hsz
  go_enter Tryd.func34, Tryd.ntmps34
  go_wp2_with fail
  refine hI.out.mono ?_
  rintro e w2 ⟨i, rfl, hi, hb⟩
  go_wp2
  go_ret
  exact ⟨by rw [← hi]; rfl, hb⟩
set_option maxRecDepth 20000 in
theorem boxC {w : World} {g t : Nat} {z : Nat × Nat} {u0 u1 u2 u3 : Value} (h : w.heap[g]? = some (.cells #[u0, u1, u2, u3] t z)) : w.cell? ⟨g, 0, none⟩ = some u0 ∧ w.cell? ⟨g, 1, none⟩ = some u1 ∧ w.cell? ⟨g, 2, none⟩ = some u2 ∧ w.cell? ⟨g, 3, none⟩ = some u3 := by
  refine ⟨?_, ?_, ?_, ?_⟩ <;> simp [World.cell?, h]
set_option maxHeartbeats 4000000 in
set_option maxRecDepth 20000 in
theorem implUnsendable (m : GAccepted) (v1 : Value) (lo : Nat) (mx : Int) (w : World) (hI : GAcceptedIn lo w.heap.size w m v1) (hf : m.fits 1048576) (hm : w.cell? ⟨0, 0, none⟩ = some (.int .i64 mx)) :
    Calls Tryd.prog 18 #[GAcceptedV m v1] w fun e w' => e = .returned (.bool (!Ct.snd m)) ∧ Below w.heap.size w w' := by
  obtain ⟨⟨a1, c1, rfl, T1⟩⟩ := hI
  obtain ⟨f0, f1, f2, f3, f4⟩ := hf
  have hlt := bcell_lt hm
  obtain ⟨V, hV⟩ : ∃ V, V = w.alloc (.cells #[.string m.fromF, .slice a1 m.toF.length c1, .string m.user, .string m.message] 34) := ⟨_, rfl⟩
  have hbV : Below w.heap.size w V := by rw [hV]; exact (Below.refl _ _).alloc (Nat.le_refl _) _
  have u0 : V.heap[w.heap.size]? = some (.cells #[.string m.fromF, .slice a1 m.toF.length c1, .string m.user, .string m.message] 34 (0, 0)) := by rw [hV]; exact heap_alloc_at _ _
  have hmV : V.cell? ⟨0, 0, none⟩ = some (.int .i64 mx) := (hbV.cell hlt).trans hm
  have hVs : w.heap.size < V.heap.size := by rw [hV]; simp
  have cK := mkHid (implIsKey m.fromF mx V f0 hmV)
  have cN := mkHid (fun (W : World) => implFromToC (m.toF.length : Int) 1 100 W)
  have HT := mkHid T1
  have Hm := mkHid hm
  have cT := mkHid (fun (W : World) (hb : Below w.heap.size w W) => implContainsQT a1 m.toF c1 lo mx W ((HT.out.below hb (Nat.le_refl _)).mono (Nat.le_refl _) hb.size) f1 f2 ((hb.cell hlt).trans Hm.out))
  have cE := mkHid (fun (W : World) => libEnds m.message W (by omega))
  have cL := mkHid (fun (W : World) => implTooLongC m.message W (by omega))
  have HV := mkHid hV
  have HbV := mkHid hbV
  have hlen : (decide ((1 : Int) ≤ (m.toF.length : Int)) && decide ((m.toF.length : Int) ≤ 100)) = (decide (1 ≤ m.toF.length) && decide (m.toF.length ≤ 100)) := by
    congr 1 <;> (apply decide_eq_decide.2; omega)
  rw [hlen] at cN
  obtain ⟨R, hR⟩ : ∃ R, Ct.snd m = R := ⟨_, rfl⟩
  have HR := mkHid hR
  rw [hR]
  clear hm hmV hV hbV T1 f2 hlen hR
  unfold GAcceptedV
  unfold Ct.snd Ct.fromOk at HR
  generalize hGU : w.heap.size = GU at *
  obtain ⟨z0, z1, z2, z3⟩ := boxC u0
  have hz0 := HV
  cases xe : (m.fromF.toList == ([] : List UInt8))
  rotate_left
  · skip
    have y0 : (m.fromF.toList != []) = false := by rw [bne, xe]; rfl
    have y0p : m.fromF.toList = [] := by simpa using xe
    have HR2 : Hid (((decide (1 ≤ m.toF.length) && decide (m.toF.length ≤ 100)) && (m.toF.all Ky.ok && (endsLine m.message && (decide (m.message.size ≤ 100000) && (m.user.toList == ([] : List UInt8)))))) = R) := show _ = _ from by rw [← HR.out, xe]; cases decide (1 ≤ m.toF.length) <;> cases decide (m.toF.length ≤ 100) <;> rfl
    clear HR
    generalize (decide (1 ≤ m.toF.length) && decide (m.toF.length ≤ 100)) = bl at *
    generalize m.toF.all Ky.ok = ba at *
    generalize endsLine m.message = be at *
    generalize decide (m.message.size ≤ 100000) = bs at *
    cases bl
    · have hr : Hid (R = false) := show _ = _ from by rw [← HR2.out]; simp
      clear HR2
      go_enter Tryd.func18, Tryd.ntmps18
      go_wp2_with (go_at_call 16; fail)
      rw [← HV.out]
      refine (cN.out _).mono ?_
      rintro e wN ⟨rfl, rfl⟩
      have B1 := HbV
      have u1 := u0
      go_wp2
      go_ret
      rw [hr.out]
      exact ⟨by first | rfl | simp | (simp; assumption), B1.out⟩
    cases ba
    · have hr : Hid (R = false) := show _ = _ from by rw [← HR2.out]; simp
      clear HR2
      go_enter Tryd.func18, Tryd.ntmps18
      go_wp2_with (go_at_call 16; fail)
      rw [← HV.out]
      refine (cN.out _).mono ?_
      rintro e wN ⟨rfl, rfl⟩
      have B1 := HbV
      have u1 := u0
      go_wp2_with (go_at_call 34; fail)
      refine (cT.out _ B1.out).mono ?_
      rintro e w2 ⟨rfl, hb2⟩
      have B2 := mkHid (B1.out.trans (hb2.mono (by have := B1.out.size; omega)))
      have u2 := (hb2.block GU (heap_lt u1)).trans u1
      obtain ⟨s0, s1, s2, s3⟩ := boxC u2
      clear hb2
      go_wp2
      go_ret
      rw [hr.out]
      exact ⟨by first | rfl | simp | (simp; assumption), B2.out⟩
    cases be
    · have hr : Hid (R = false) := show _ = _ from by rw [← HR2.out]; simp
      clear HR2
      go_enter Tryd.func18, Tryd.ntmps18
      go_wp2_with (go_at_call 16; fail)
      rw [← HV.out]
      refine (cN.out _).mono ?_
      rintro e wN ⟨rfl, rfl⟩
      have B1 := HbV
      have u1 := u0
      go_wp2_with (go_at_call 34; fail)
      refine (cT.out _ B1.out).mono ?_
      rintro e w2 ⟨rfl, hb2⟩
      have B2 := mkHid (B1.out.trans (hb2.mono (by have := B1.out.size; omega)))
      have u2 := (hb2.block GU (heap_lt u1)).trans u1
      obtain ⟨s0, s1, s2, s3⟩ := boxC u2
      clear hb2
      go_wp2_with (go_at_call 36; fail)
      refine (cE.out _).mono ?_
      rintro e wE ⟨rfl, rfl⟩
      go_wp2
      go_ret
      rw [hr.out]
      exact ⟨by first | rfl | simp | (simp; assumption), B2.out⟩
    cases bs
    · have hr : Hid (R = false) := show _ = _ from by rw [← HR2.out]; simp
      clear HR2
      go_enter Tryd.func18, Tryd.ntmps18
      go_wp2_with (go_at_call 16; fail)
      rw [← HV.out]
      refine (cN.out _).mono ?_
      rintro e wN ⟨rfl, rfl⟩
      have B1 := HbV
      have u1 := u0
      go_wp2_with (go_at_call 34; fail)
      refine (cT.out _ B1.out).mono ?_
      rintro e w2 ⟨rfl, hb2⟩
      have B2 := mkHid (B1.out.trans (hb2.mono (by have := B1.out.size; omega)))
      have u2 := (hb2.block GU (heap_lt u1)).trans u1
      obtain ⟨s0, s1, s2, s3⟩ := boxC u2
      clear hb2
      go_wp2_with (go_at_call 36; fail)
      refine (cE.out _).mono ?_
      rintro e wE ⟨rfl, rfl⟩
      go_wp2_with (go_at_call 37; fail)
      refine (cL.out _).mono ?_
      rintro e wL ⟨rfl, rfl⟩
      go_wp2
      go_ret
      rw [hr.out]
      exact ⟨by first | rfl | simp | (simp; assumption), B2.out⟩
    cases xu : (m.user.toList == ([] : List UInt8))
    · have yu : (m.user.toList != ([] : List UInt8)) = true := by rw [bne, xu]; rfl
      have yup : ¬ m.user.toList = [] := by simpa using xu
      have hr : Hid (R = false) := show _ = _ from by rw [← HR2.out, xu]; rfl
      clear HR2
      go_enter Tryd.func18, Tryd.ntmps18
      go_wp2_with (go_at_call 16; fail)
      rw [← HV.out]
      refine (cN.out _).mono ?_
      rintro e wN ⟨rfl, rfl⟩
      have B1 := HbV
      have u1 := u0
      go_wp2_with (go_at_call 34; fail)
      refine (cT.out _ B1.out).mono ?_
      rintro e w2 ⟨rfl, hb2⟩
      have B2 := mkHid (B1.out.trans (hb2.mono (by have := B1.out.size; omega)))
      have u2 := (hb2.block GU (heap_lt u1)).trans u1
      obtain ⟨s0, s1, s2, s3⟩ := boxC u2
      clear hb2
      go_wp2_with (go_at_call 36; fail)
      refine (cE.out _).mono ?_
      rintro e wE ⟨rfl, rfl⟩
      go_wp2_with (go_at_call 37; fail)
      refine (cL.out _).mono ?_
      rintro e wL ⟨rfl, rfl⟩
      go_wp2
      go_ret
      rw [hr.out]
      exact ⟨by first | rfl | simp | (simp; assumption), B2.out⟩
    · have yu : (m.user.toList != ([] : List UInt8)) = false := by rw [bne, xu]; rfl
      have yup : m.user.toList = [] := by simpa using xu
      have hr : Hid (R = true) := show _ = _ from by rw [← HR2.out, xu]; rfl
      clear HR2
      go_enter Tryd.func18, Tryd.ntmps18
      go_wp2_with (go_at_call 16; fail)
      rw [← HV.out]
      refine (cN.out _).mono ?_
      rintro e wN ⟨rfl, rfl⟩
      have B1 := HbV
      have u1 := u0
      go_wp2_with (go_at_call 34; fail)
      refine (cT.out _ B1.out).mono ?_
      rintro e w2 ⟨rfl, hb2⟩
      have B2 := mkHid (B1.out.trans (hb2.mono (by have := B1.out.size; omega)))
      have u2 := (hb2.block GU (heap_lt u1)).trans u1
      obtain ⟨s0, s1, s2, s3⟩ := boxC u2
      clear hb2
      go_wp2_with (go_at_call 36; fail)
      refine (cE.out _).mono ?_
      rintro e wE ⟨rfl, rfl⟩
      go_wp2_with (go_at_call 37; fail)
      refine (cL.out _).mono ?_
      rintro e wL ⟨rfl, rfl⟩
      go_wp2
      go_ret
      rw [hr.out]
      exact ⟨by first | rfl | simp | (simp; assumption), B2.out⟩
  cases xf : Ky.ok m.fromF
  · rw [xf] at cK
    have y0 : (m.fromF.toList != []) = true := by rw [bne, xe]; rfl
    have y0p : ¬ m.fromF.toList = [] := by simpa using xe
    have hr : Hid (R = false) := show _ = _ from by rw [← HR.out, xe, xf]; rfl
    clear HR xf
    go_enter Tryd.func18, Tryd.ntmps18
    go_wp2_with (go_at_call 33; fail)
    rw [← HV.out]
    refine cK.out.mono ?_
    rintro e w1 ⟨rfl, hb1⟩
    have B1 := mkHid (HbV.out.trans (hb1.mono (by omega)))
    have u1 := (hb1.block GU (by omega)).trans u0
    obtain ⟨p0, p1, p2, p3⟩ := boxC u1
    clear hb1
    go_wp2
    go_ret
    rw [hr.out]
    exact ⟨by simp, B1.out⟩
  rw [xf] at cK
  have y0 : (m.fromF.toList != []) = true := by rw [bne, xe]; rfl
  have y0p : ¬ m.fromF.toList = [] := by simpa using xe
  have HR2 : Hid (((decide (1 ≤ m.toF.length) && decide (m.toF.length ≤ 100)) && (m.toF.all Ky.ok && (endsLine m.message && (decide (m.message.size ≤ 100000) && (m.user.toList == ([] : List UInt8)))))) = R) := show _ = _ from by rw [← HR.out, xe, xf]; cases decide (1 ≤ m.toF.length) <;> cases decide (m.toF.length ≤ 100) <;> rfl
  clear HR xf
  generalize (decide (1 ≤ m.toF.length) && decide (m.toF.length ≤ 100)) = bl at *
  generalize m.toF.all Ky.ok = ba at *
  generalize endsLine m.message = be at *
  generalize decide (m.message.size ≤ 100000) = bs at *
  cases bl
  · have hr : Hid (R = false) := show _ = _ from by rw [← HR2.out]; simp
    clear HR2
    go_enter Tryd.func18, Tryd.ntmps18
    go_wp2_with (go_at_call 33; fail)
    rw [← HV.out]
    refine cK.out.mono ?_
    rintro e w1 ⟨rfl, hb1⟩
    have B1 := mkHid (HbV.out.trans (hb1.mono (by omega)))
    have u1 := (hb1.block GU (by omega)).trans u0
    obtain ⟨p0, p1, p2, p3⟩ := boxC u1
    clear hb1
    go_wp2_with (go_at_call 16; fail)
    refine (cN.out _).mono ?_
    rintro e wN ⟨rfl, rfl⟩
    go_wp2
    go_ret
    rw [hr.out]
    exact ⟨by first | rfl | simp | (simp; assumption), B1.out⟩
  cases ba
  · have hr : Hid (R = false) := show _ = _ from by rw [← HR2.out]; simp
    clear HR2
    go_enter Tryd.func18, Tryd.ntmps18
    go_wp2_with (go_at_call 33; fail)
    rw [← HV.out]
    refine cK.out.mono ?_
    rintro e w1 ⟨rfl, hb1⟩
    have B1 := mkHid (HbV.out.trans (hb1.mono (by omega)))
    have u1 := (hb1.block GU (by omega)).trans u0
    obtain ⟨p0, p1, p2, p3⟩ := boxC u1
    clear hb1
    go_wp2_with (go_at_call 16; fail)
    refine (cN.out _).mono ?_
    rintro e wN ⟨rfl, rfl⟩
    go_wp2_with (go_at_call 34; fail)
    refine (cT.out _ B1.out).mono ?_
    rintro e w2 ⟨rfl, hb2⟩
    have B2 := mkHid (B1.out.trans (hb2.mono (by have := B1.out.size; omega)))
    have u2 := (hb2.block GU (heap_lt u1)).trans u1
    obtain ⟨s0, s1, s2, s3⟩ := boxC u2
    clear hb2
    go_wp2
    go_ret
    rw [hr.out]
    exact ⟨by first | rfl | simp | (simp; assumption), B2.out⟩
  cases be
  · have hr : Hid (R = false) := show _ = _ from by rw [← HR2.out]; simp
    clear HR2
    go_enter Tryd.func18, Tryd.ntmps18
    go_wp2_with (go_at_call 33; fail)
    rw [← HV.out]
    refine cK.out.mono ?_
    rintro e w1 ⟨rfl, hb1⟩
    have B1 := mkHid (HbV.out.trans (hb1.mono (by omega)))
    have u1 := (hb1.block GU (by omega)).trans u0
    obtain ⟨p0, p1, p2, p3⟩ := boxC u1
    clear hb1
    go_wp2_with (go_at_call 16; fail)
    refine (cN.out _).mono ?_
    rintro e wN ⟨rfl, rfl⟩
    go_wp2_with (go_at_call 34; fail)
    refine (cT.out _ B1.out).mono ?_
    rintro e w2 ⟨rfl, hb2⟩
    have B2 := mkHid (B1.out.trans (hb2.mono (by have := B1.out.size; omega)))
    have u2 := (hb2.block GU (heap_lt u1)).trans u1
    obtain ⟨s0, s1, s2, s3⟩ := boxC u2
    clear hb2
    go_wp2_with (go_at_call 36; fail)
    refine (cE.out _).mono ?_
    rintro e wE ⟨rfl, rfl⟩
    go_wp2
    go_ret
    rw [hr.out]
    exact ⟨by first | rfl | simp | (simp; assumption), B2.out⟩
  cases bs
  · have hr : Hid (R = false) := show _ = _ from by rw [← HR2.out]; simp
    clear HR2
    go_enter Tryd.func18, Tryd.ntmps18
    go_wp2_with (go_at_call 33; fail)
    rw [← HV.out]
    refine cK.out.mono ?_
    rintro e w1 ⟨rfl, hb1⟩
    have B1 := mkHid (HbV.out.trans (hb1.mono (by omega)))
    have u1 := (hb1.block GU (by omega)).trans u0
    obtain ⟨p0, p1, p2, p3⟩ := boxC u1
    clear hb1
    go_wp2_with (go_at_call 16; fail)
    refine (cN.out _).mono ?_
    rintro e wN ⟨rfl, rfl⟩
    go_wp2_with (go_at_call 34; fail)
    refine (cT.out _ B1.out).mono ?_
    rintro e w2 ⟨rfl, hb2⟩
    have B2 := mkHid (B1.out.trans (hb2.mono (by have := B1.out.size; omega)))
    have u2 := (hb2.block GU (heap_lt u1)).trans u1
    obtain ⟨s0, s1, s2, s3⟩ := boxC u2
    clear hb2
    go_wp2_with (go_at_call 36; fail)
    refine (cE.out _).mono ?_
    rintro e wE ⟨rfl, rfl⟩
    go_wp2_with (go_at_call 37; fail)
    refine (cL.out _).mono ?_
    rintro e wL ⟨rfl, rfl⟩
    go_wp2
    go_ret
    rw [hr.out]
    exact ⟨by first | rfl | simp | (simp; assumption), B2.out⟩
  cases xu : (m.user.toList == ([] : List UInt8))
  · have yu : (m.user.toList != ([] : List UInt8)) = true := by rw [bne, xu]; rfl
    have yup : ¬ m.user.toList = [] := by simpa using xu
    have hr : Hid (R = false) := show _ = _ from by rw [← HR2.out, xu]; rfl
    clear HR2
    go_enter Tryd.func18, Tryd.ntmps18
    go_wp2_with (go_at_call 33; fail)
    rw [← HV.out]
    refine cK.out.mono ?_
    rintro e w1 ⟨rfl, hb1⟩
    have B1 := mkHid (HbV.out.trans (hb1.mono (by omega)))
    have u1 := (hb1.block GU (by omega)).trans u0
    obtain ⟨p0, p1, p2, p3⟩ := boxC u1
    clear hb1
    go_wp2_with (go_at_call 16; fail)
    refine (cN.out _).mono ?_
    rintro e wN ⟨rfl, rfl⟩
    go_wp2_with (go_at_call 34; fail)
    refine (cT.out _ B1.out).mono ?_
    rintro e w2 ⟨rfl, hb2⟩
    have B2 := mkHid (B1.out.trans (hb2.mono (by have := B1.out.size; omega)))
    have u2 := (hb2.block GU (heap_lt u1)).trans u1
    obtain ⟨s0, s1, s2, s3⟩ := boxC u2
    clear hb2
    go_wp2_with (go_at_call 36; fail)
    refine (cE.out _).mono ?_
    rintro e wE ⟨rfl, rfl⟩
    go_wp2_with (go_at_call 37; fail)
    refine (cL.out _).mono ?_
    rintro e wL ⟨rfl, rfl⟩
    go_wp2
    go_ret
    rw [hr.out]
    exact ⟨by first | rfl | simp | (simp; assumption), B2.out⟩
  · have yu : (m.user.toList != ([] : List UInt8)) = false := by rw [bne, xu]; rfl
    have yup : m.user.toList = [] := by simpa using xu
    have hr : Hid (R = true) := show _ = _ from by rw [← HR2.out, xu]; rfl
    clear HR2
    go_enter Tryd.func18, Tryd.ntmps18
    go_wp2_with (go_at_call 33; fail)
    rw [← HV.out]
    refine cK.out.mono ?_
    rintro e w1 ⟨rfl, hb1⟩
    have B1 := mkHid (HbV.out.trans (hb1.mono (by omega)))
    have u1 := (hb1.block GU (by omega)).trans u0
    obtain ⟨p0, p1, p2, p3⟩ := boxC u1
    clear hb1
    go_wp2_with (go_at_call 16; fail)
    refine (cN.out _).mono ?_
    rintro e wN ⟨rfl, rfl⟩
    go_wp2_with (go_at_call 34; fail)
    refine (cT.out _ B1.out).mono ?_
    rintro e w2 ⟨rfl, hb2⟩
    have B2 := mkHid (B1.out.trans (hb2.mono (by have := B1.out.size; omega)))
    have u2 := (hb2.block GU (heap_lt u1)).trans u1
    obtain ⟨s0, s1, s2, s3⟩ := boxC u2
    clear hb2
    go_wp2_with (go_at_call 36; fail)
    refine (cE.out _).mono ?_
    rintro e wE ⟨rfl, rfl⟩
    go_wp2_with (go_at_call 37; fail)
    refine (cL.out _).mono ?_
    rintro e wL ⟨rfl, rfl⟩
    go_wp2
    go_ret
    rw [hr.out]
    exact ⟨by first | rfl | simp | (simp; assumption), B2.out⟩
set_option maxRecDepth 20000 in
set_option maxHeartbeats 2000000 in
theorem implIndexQA (o : Option Addr) (F : List GAccepted) (cap lo : Nat) (mx : Int) (w : World) (hF : GAcceptedsL lo w.heap.size w o F) (hl : F.length ≤ 1048576) (hsz : ∀ t ∈ F, t.fits 1048576) (hm : w.cell? ⟨0, 0, none⟩ = some (.int .i64 mx)) :
    Calls Tryd.prog 32 #[.slice o F.length cap, .func (.func 18) #[] #[]] w fun e w' => ∃ i : Int, e = .returned (.int .i64 i) ∧ decide (0 ≤ i) = !F.all Ct.snd ∧ Below w.heap.size w w' := by
  have hE : ∀ (args : Array Value) (w : World), (callFunc 18 args).run Tryd.prog w = .ok (.enter 18 args) w := Go.Proofs.enters_of Tryd.func18 (by kernel_rfl) rfl
  have hlt0 := bcell_lt hm
  have HF := mkHid hF
  have Hm := mkHid hm
  have Hsz := mkHid hsz
  clear hF hm hsz
  obtain ⟨R, hR⟩ : ∃ R, F.all Ct.snd = R := ⟨_, rfl⟩
  have HR : Hid ((F.drop 0).all Ct.snd = R) := hR
  rw [hR]
  clear hR
  go_enter Tryd.func32, Tryd.ntmps32
  go_wp2
  go_loopw [5, 8] (fun _ iv wr => ∃ k : Nat, k ≤ F.length ∧ iv = .int .i64 k ∧ Hid ((F.drop k).all Ct.snd = R) ∧ Hid (Below w.heap.size w wr)) (fun _ iv _ => F.length - (Lib.intOf iv).toNat)
  case atStart => exact ⟨0, Nat.zero_le _, rfl, HR, Below.refl _ _⟩
  case round =>
    clear HR
    obtain ⟨k, hk, rfl, hp, hB⟩ := hrel
    by_cases hlt : k < F.length
    · obtain ⟨a, v1, rfl, ha1, ha2, hAt, hIn⟩ := ((HF.out.below hB.out (Nat.le_refl _)).mono (Nat.le_refl _) hB.out.size) k hlt
      have hst := Ct.all_drop Ct.snd F k hlt
      rw [hp.out] at hst
      have cN := mkHid (implUnsendable F[k] v1 lo mx wr hIn (Hsz.out _ (List.getElem_mem hlt)) ((hB.out.cell hlt0).trans Hm.out))
      have d0 := hAt.c0
      have d1 := hAt.c1
      have d2 := hAt.c2
      have d3 := hAt.c3
      clear hAt hIn
      have Hst := mkHid hst
      clear hst hp
      unfold GAcceptedV at cN
      generalize Ct.snd F[k] = nb at *
      generalize F[k] = x at *
      go_wp2_with fail
      refine cN.out.mono ?_
      rintro e w1 ⟨rfl, hb1⟩
      have hB1 := mkHid (hB.out.trans (hb1.mono hB.out.size))
      clear cN hb1 hB
      cases nb
      · have hR : R = false := by rw [Hst.out, Bool.false_and]
        subst hR
        clear Hst
        go_wp2
        go_ret
        exact ⟨k, rfl, by simp, hB1.out⟩
      · have HN : Hid ((F.drop (k + 1)).all Ct.snd = R) := by show _ = _; rw [Hst.out, Bool.true_and]
        clear Hst
        go_wp2
        go_roundw
        case rel => exact ⟨k + 1, by omega, by go_num, HN, hB1⟩
        case measure => simp [Lib.intOf]; omega
    · have hR : R = true := by rw [← hp.out, List.drop_eq_nil_of_le (by omega)]; rfl
      subst hR
      clear hp
      go_wp2
      go_ret
      exact ⟨-1, rfl, rfl, hB.out⟩
set_option maxRecDepth 20000 in
theorem implContainsQA (o : Option Addr) (F : List GAccepted) (cap lo : Nat) (mx : Int) (w : World) (hF : GAcceptedsL lo w.heap.size w o F) (hl : F.length ≤ 1048576) (hsz : ∀ t ∈ F, t.fits 1048576) (hm : w.cell? ⟨0, 0, none⟩ = some (.int .i64 mx)) :
    Calls Tryd.prog 17 #[.slice o F.length cap, .func (.func 18) #[] #[]] w fun e w' => e = .returned (.bool (!F.all Ct.snd)) ∧ Below w.heap.size w w' := by
  have hI := mkHid (implIndexQA o F cap lo mx w hF hl hsz hm)
  clear hF hm hsz
  go_enter Tryd.func17, Tryd.ntmps17
  go_wp2_with fail
  refine hI.out.mono ?_
  rintro e w2 ⟨i, rfl, hi, hb⟩
  go_wp2
  go_ret
  exact ⟨by rw [← hi]; rfl, hb⟩
end Go.Proofs.YthgjflgidalmlaaDoor
