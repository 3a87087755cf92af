
/- The specification's code of every node: by the depth. -/
import Derived.Test.YtonnmbkfjiddnaaCompImplB
import Derived.Test.YtonnmbkfjiddnaaCompRep
import Derived.Test.YtonnmbkfjiddnaaCompSev
namespace Go.Proofs.Ytonnmbkfjiddnaa
open Go.RowKit Go.Lib Go.Maps
theorem from_all (kind : Int) (p : Int → Bool) (hp : ∀ i k, Fn.kidOk kind i k = true → p k = true) : ∀ (ks : List Int) (i : Nat), Fn.kidsFrom kind i ks = true → ∀ k ∈ ks, p k = true
  | [], _, _, k, hk => (List.not_mem_nil hk).elim
  | x :: r, i, h, k, hk => by
    rw [Fn.kidsFrom, Bool.and_eq_true] at h
    rcases List.mem_cons.1 hk with rfl | hk
    · exact hp i k h.1
    · exact from_all kind p hp r (i + 1) h.2 k hk
theorem kids_all (F : List Nd) (kind : Int) (ks : List Int) (p : Int → Bool) (hp : ∀ i k, Fn.kidOk kind i k = true → p k = true) (h : Fn.kidsOk kind (ks.map (Fn.kindAt F)) = true) : ∀ k ∈ ks, p (Fn.kindAt F k) = true := by
  intro k hk
  unfold Fn.kidsOk at h
  rw [Bool.and_eq_true] at h
  exact from_all kind p hp _ 0 h.1 _ (List.mem_map_of_mem hk)
theorem sev_ge (f : Nat → Nat → List Cd) (op e : Int) : ∀ (r : List Int) (b : Nat), r.length ≤ (Cp.sev f op e r b).length
  | [], _ => Nat.zero_le _
  | k :: r, b => by
    have := sev_ge f op e r (b + 1 + (f k.toNat (b + 1)).length)
    rw [Cp.sev, List.length_cons, List.length_cons, List.length_append]
    omega
theorem part_ge (f : Nat → Nat → List Cd) (op : Int) (l : List Int) (b : Nat) : l.length ≤ (Cp.part f op l b).length + 1 := by
  cases l with
  | nil => exact Nat.zero_le _
  | cons k r =>
    have := sev_ge f op 0 r (b + (f k.toNat b).length)
    rw [Cp.part, List.length_cons, List.length_append]
    omega
theorem kindAt_nat (F : List Nd) (i : Nat) (h : i < F.length) : Fn.kindAt F (i : Int) = F[i].kind := by
  unfold Fn.kindAt
  rw [Int.toNat_natCast, List.getElem?_eq_getElem h]
  rfl
theorem ok_parts (F : List Nd) (i : Nat) (h : i < F.length) (ok : Fn.ok F i = true) : Fn.fieldsOk F[i] = true ∧ Fn.kidsOk F[i].kind (F[i].kids.map (Fn.kindAt F)) = true := by
  unfold Fn.ok at ok
  rw [List.getElem?_eq_getElem h] at ok
  exact Bool.and_eq_true_iff.1 ok
theorem kind_parts (n : Nd) (h : Fn.fieldsOk n = true) : (1 ≤ n.kind ∧ n.kind ≤ 11) ∨ (20 ≤ n.kind ∧ n.kind ≤ 31) := by
  unfold Fn.fieldsOk at h
  repeat' split at h
  all_goals first | omega | cases h
theorem one_leaf (f : Nat → Nat → List Cd) (n : Nd) (b : Nat) (h : n.kind = 4 ∨ n.kind = 5 ∨ (6 ≤ n.kind ∧ n.kind ≤ 21) ∨ 25 ≤ n.kind) : (Cp.one f n b).length = 2 := by
  unfold Cp.one Cp.rest
  rw [if_neg (by omega), if_neg (by omega), if_neg (by omega)]
  split
  · rfl
  · split
    · rfl
    · split
      · rfl
      · rw [if_neg (by omega), if_neg (by omega), if_neg (by omega)]
        rfl
theorem specTestAll (F : List Nd) (o : Option Addr) (cap : Nat) (hlF : F.length ≤ 1048576) (hfit : ∀ n ∈ F, n.fits 1048576) : ∀ d, TestOk F o cap d
  | 0 => by
    intro i g v C w hW
    cases hW
  | d + 1 => by
    have ih := specTestAll F o cap hlF hfit d
    intro i g v C w hW ht hM hF hlen
    cases hW with
    | mk _ _ h ok nat kids =>
      obtain ⟨-, hok⟩ := ok_parts F i h ok
      rw [code_at F d i _ h] at hlen ⊢
      rw [kindAt_nat F i h] at ht
      unfold Fn.isTest at ht
      rw [Bool.and_eq_true, decide_eq_true_eq, decide_eq_true_eq] at ht
      have hf := hfit F[i] (List.getElem_mem h)
      by_cases k20 : F[i].kind = 20
      · rw [one_leaf _ _ _ (by omega)] at hlen
        exact testTrue F o cap d i g v C w h hM hF hlF k20 (by omega)
      by_cases k21 : F[i].kind = 21
      · rw [one_leaf _ _ _ (by omega)] at hlen
        exact testFalse F o cap d i g v C w h hM hF hlF k21 (by omega)
      by_cases k22 : F[i].kind = 22
      · exact testNot F o cap d i g v C w h hM hF hlF k22 ih (fun k hk => ⟨nat k hk, kids k hk⟩) hok hlen
      by_cases k23 : F[i].kind = 23
      · have hone : Cp.one (Cp.code F d) F[i] C.length = Cp.zc 1 0 :: Cp.sevs (Cp.code F d) 4 F[i].kids (C.length + 1) := by
          unfold Cp.one Cp.rest
          rw [k23]
          rfl
        rw [hone, List.length_cons, Cp.sevs_len] at hlen
        have hg := part_ge (Cp.code F d) 4 F[i].kids (C.length + 1)
        rw [k23] at hok
        have hall := kids_all F 23 F[i].kids Fn.isTest (fun _ k hk => by simpa [Fn.kidOk] using hk) hok
        exact testAll F o cap d i g v C w h hM hF hlF k23 ih (fun k hk => ⟨nat k hk, kids k hk, hall k hk⟩) (by omega) (by omega)
      by_cases k24 : F[i].kind = 24
      · have hone : Cp.one (Cp.code F d) F[i] C.length = Cp.zc 1 0 :: Cp.sevs (Cp.code F d) 3 F[i].kids (C.length + 1) := by
          unfold Cp.one Cp.rest
          rw [k24]
          rfl
        rw [hone, List.length_cons, Cp.sevs_len] at hlen
        have hg := part_ge (Cp.code F d) 3 F[i].kids (C.length + 1)
        rw [k24] at hok
        have hall := kids_all F 24 F[i].kids Fn.isTest (fun _ k hk => by simpa [Fn.kidOk] using hk) hok
        exact testAny F o cap d i g v C w h hM hF hlF k24 ih (fun k hk => ⟨nat k hk, kids k hk, hall k hk⟩) (by omega) (by omega)
      rw [one_leaf _ _ _ (by omega)] at hlen
      exact testLeaf F o cap d i g v C w h hM hF hlF (by omega) hf (by omega)
theorem not_test (k : Int) (h : k = 1 ∨ Fn.isCmd k = true) : Fn.isTest k = false := by
  unfold Fn.isTest
  rcases h with rfl | h
  · rfl
  · unfold Fn.isCmd at h
    simp only [Bool.and_eq_true, decide_eq_true_eq] at h
    simp
    omega
theorem kids_rep (F : List Nd) (ks : List Int) (h : Fn.kidsOk 3 (ks.map (Fn.kindAt F)) = true) : ∃ k0, ks = [k0] ∧ Fn.kindAt F k0 = 1 := by
  unfold Fn.kidsOk at h
  rw [Bool.and_eq_true] at h
  obtain ⟨h1, h2⟩ := h
  rcases ks with _ | ⟨k0, _ | ⟨k1, r⟩⟩
  · simp [Fn.least] at h2
  · refine ⟨k0, rfl, ?_⟩
    simpa [Fn.kidsFrom, Fn.kidOk] using h1
  · exfalso
    simp [Fn.kidsFrom, Fn.kidOk] at h1
theorem specDoAll (F : List Nd) (o : Option Addr) (cap : Nat) (hlF : F.length ≤ 1048576) (hfit : ∀ n ∈ F, n.fits 1048576) : ∀ d, DoOk F o cap d
  | 0 => by
    intro i g v C w hW
    cases hW
  | d + 1 => by
    have ih := specDoAll F o cap hlF hfit d
    have ihT := specTestAll F o cap hlF hfit d
    intro i g v C w hW ht hM hF hlen
    cases hW with
    | mk _ _ h ok nat kids =>
      obtain ⟨hfo, hok⟩ := ok_parts F i h ok
      rw [code_at F d i _ h] at hlen ⊢
      rw [kindAt_nat F i h] at ht
      have hkp := kind_parts F[i] hfo
      unfold Fn.isTest at ht
      simp only [Bool.and_eq_false_iff, decide_eq_false_iff_not] at ht
      have hf := hfit F[i] (List.getElem_mem h)
      by_cases k1 : F[i].kind = 1
      · have hone : Cp.one (Cp.code F d) F[i] C.length = Cp.cat (Cp.code F d) F[i].kids C.length := by
          unfold Cp.one
          rw [k1]
          rfl
        rw [hone] at hlen
        rw [k1] at hok
        have hall := kids_all F 1 F[i].kids Fn.isCmd (fun _ k hk => by simpa [Fn.kidOk] using hk) hok
        exact doBlock F o cap d i g v C w h hM hF hlF k1 ih (fun k hk => ⟨nat k hk, kids k hk, not_test _ (.inr (hall k hk))⟩) hf.2.2.2.2.2 hlen
      by_cases k2 : F[i].kind = 2
      · rw [k2] at hok
        obtain ⟨q0, q1, qo, hks, t0, t1, tO⟩ := kids_if F _ hok
        have m0 : q0 ∈ F[i].kids := by rw [hks]; simp
        have m1 : q1 ∈ F[i].kids := by rw [hks]; simp
        have z0 := nat q0 m0
        have z1 := nat q1 m1
        have f0 := kids q0 m0
        have f1 := kids q1 m1
        obtain ⟨j0, rfl⟩ : ∃ j : Nat, q0 = j := ⟨q0.toNat, by omega⟩
        obtain ⟨j1, rfl⟩ : ∃ j : Nat, q1 = j := ⟨q1.toNat, by omega⟩
        rw [Int.toNat_natCast] at f0 f1
        have hone : Cp.one (Cp.code F d) F[i] C.length = Cp.zc 1 0 :: Cp.choice (Cp.code F d) (j0 : Int) (j1 : Int) qo (C.length + 1) := by
          unfold Cp.one Cp.rest
          rw [k2, hks]
          rfl
        rcases tO with rfl | ⟨q2, rfl, t2⟩
        · refine doIf2 F o cap d i g v C w h hM hF hlF j0 j1 k2 ihT ih hks f0 f1 t0 (not_test _ (.inl t1)) ?_
          rw [hone] at hlen
          unfold Cp.choice at hlen
          simp only [List.length_cons, List.length_append, Int.toNat_natCast] at hlen
          omega
        · have m2 : q2 ∈ F[i].kids := by rw [hks]; simp
          have z2 := nat q2 m2
          have f2 := kids q2 m2
          obtain ⟨j2, rfl⟩ : ∃ j : Nat, q2 = j := ⟨q2.toNat, by omega⟩
          rw [Int.toNat_natCast] at f2
          refine doIf3 F o cap d i g v C w h hM hF hlF j0 j1 j2 k2 ihT ih hks f0 f1 f2 t0 (not_test _ (.inl t1)) (not_test _ (by rcases t2 with e | e; exact .inl e; rw [e]; exact .inr rfl)) ?_
          rw [hone] at hlen
          unfold Cp.choice at hlen
          simp only [List.length_cons, List.length_append, Int.toNat_natCast] at hlen
          omega
      by_cases k3 : F[i].kind = 3
      · rw [k3] at hok
        obtain ⟨q0, hks, t0⟩ := kids_rep F _ hok
        have m0 : q0 ∈ F[i].kids := by rw [hks]; simp
        have z0 := nat q0 m0
        have f0 := kids q0 m0
        obtain ⟨j0, rfl⟩ : ∃ j : Nat, q0 = j := ⟨q0.toNat, by omega⟩
        rw [Int.toNat_natCast] at f0
        have hone : Cp.one (Cp.code F d) F[i] C.length = Cp.zc 1 0 :: Cp.again (Cp.code F d) F[i].num (j0 : Int) (C.length + 1) := by
          unfold Cp.one Cp.rest
          rw [k3, hks]
          rfl
        refine doRepeat F o cap d i g v C w h hM hF hlF j0 [] k3 ih hks f0 (not_test _ (.inl t0)) ?_
        rw [hone] at hlen
        unfold Cp.again at hlen
        simp only [List.length_cons, List.length_append, List.length_nil, Int.toNat_natCast] at hlen
        have e : C.length + 1 + 2 = C.length + 3 := by omega
        rw [e] at hlen
        omega
      by_cases k6 : F[i].kind = 6
      · rw [one_leaf _ _ _ (by omega)] at hlen
        exact doStop F o cap d i g v C w h hM hF hlF k6 (by omega)
      rw [one_leaf _ _ _ (by omega)] at hlen
      exact doLeaf F o cap d i g v C w h hM hF hlF (by omega) hf (by omega)
end Go.Proofs.Ytonnmbkfjiddnaa
