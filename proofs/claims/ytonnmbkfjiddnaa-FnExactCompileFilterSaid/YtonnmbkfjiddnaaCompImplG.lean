
/- The program's code of every node: by the depth. -/
import Derived.Test.YtonnmbkfjiddnaaCompImplF
import Derived.Test.YtonnmbkfjiddnaaCompInd
namespace Go.Proofs.Ytonnmbkfjiddnaa
open Go.RowKit Go.Lib Go.Maps
set_option maxRecDepth 20000 in
theorem kids_not (F : List Nd) (ks : List Int) (h : Fn.kidsOk 22 (ks.map (Fn.kindAt F)) = true) : ∃ k0, ks = [k0] := by
  unfold Fn.kidsOk at h
  rw [Bool.and_eq_true] at h
  obtain ⟨h1, h2⟩ := h
  rcases ks with _ | ⟨k0, _ | ⟨k1, r⟩⟩
  · simp [Fn.least] at h2
  · exact ⟨k0, rfl⟩
  · exfalso
    simp [Fn.kidsFrom, Fn.kidOk] at h1
set_option maxRecDepth 20000 in
theorem implAddAll (F : List Nd) (o : Option Addr) (cap : Nat) (hlF : F.length ≤ 1048576) (hfit : ∀ n ∈ F, n.fits 1048576) : ∀ d, AddOk F o cap d
  | 0 => by
    intro i g v C w hW
    cases hW
  | d + 1 => by
    have ih := implAddAll F o cap hlF hfit d
    intro i g v C w hW hM hF hlen
    cases hW with
    | mk _ _ h ok nat kids =>
      obtain ⟨hfo, hok⟩ := ok_parts F i h ok
      rw [code_at F d i _ h] at hlen ⊢
      have hkp := kind_parts F[i] hfo
      have hf := hfit F[i] (List.getElem_mem h)
      by_cases k1 : F[i].kind = 1
      · have hone : Cp.one (Cp.code F d) F[i] C.length = Cp.cat (Cp.code F d) F[i].kids C.length := by
          unfold Cp.one
          rw [k1]
          rfl
        rw [hone] at hlen
        exact addBlk F o cap d i g v C w h hM hF hlF k1 ih (fun k hk => ⟨nat k hk, kids k hk⟩) hf.2.2.2.2.2 hlen
      by_cases k2 : F[i].kind = 2
      · rw [k2] at hok
        obtain ⟨q0, q1, qo, hks, t0, t1, tO⟩ := kids_if F _ hok
        have m0 : q0 ∈ F[i].kids := by rw [hks]; simp
        have m1 : q1 ∈ F[i].kids := by rw [hks]; simp
        have z0 := nat q0 m0
        have z1 := nat q1 m1
        have f0 := kids q0 m0
        have f1 := kids q1 m1
        obtain ⟨j0, rfl⟩ : ∃ j : Nat, q0 = j := ⟨q0.toNat, by omega⟩
        obtain ⟨j1, rfl⟩ : ∃ j : Nat, q1 = j := ⟨q1.toNat, by omega⟩
        rw [Int.toNat_natCast] at f0 f1
        have hone : Cp.one (Cp.code F d) F[i] C.length = Cp.zc 1 0 :: Cp.choice (Cp.code F d) (j0 : Int) (j1 : Int) qo (C.length + 1) := by
          unfold Cp.one Cp.rest
          rw [k2, hks]
          rfl
        rw [hone, List.length_cons] at hlen
        rcases tO with rfl | ⟨q2, rfl, t2⟩
        · exact addIf2 F o cap d i g v C w h hM hF hlF k2 j0 j1 hks ih f0 f1 (by omega)
        · have m2 : q2 ∈ F[i].kids := by rw [hks]; simp
          have z2 := nat q2 m2
          have f2 := kids q2 m2
          obtain ⟨j2, rfl⟩ : ∃ j : Nat, q2 = j := ⟨q2.toNat, by omega⟩
          rw [Int.toNat_natCast] at f2
          exact addIf3 F o cap d i g v C w h hM hF hlF k2 j0 j1 j2 hks ih f0 f1 f2 (by omega)
      by_cases k3 : F[i].kind = 3
      · rw [k3] at hok
        obtain ⟨q0, hks, t0⟩ := kids_rep F _ hok
        have m0 : q0 ∈ F[i].kids := by rw [hks]; simp
        have z0 := nat q0 m0
        have f0 := kids q0 m0
        obtain ⟨j0, rfl⟩ : ∃ j : Nat, q0 = j := ⟨q0.toNat, by omega⟩
        rw [Int.toNat_natCast] at f0
        have hone : Cp.one (Cp.code F d) F[i] C.length = Cp.zc 1 0 :: Cp.again (Cp.code F d) F[i].num (j0 : Int) (C.length + 1) := by
          unfold Cp.one Cp.rest
          rw [k3, hks]
          rfl
        rw [hone, List.length_cons] at hlen
        exact addRep F o cap d i g v C w h hM hF hlF k3 j0 hks ih f0 (by omega)
      by_cases k6 : F[i].kind = 6
      · rw [one_leaf _ _ _ (by omega)] at hlen
        exact addStop F o cap d i g v C w h hM hF hlF k6 (by omega)
      by_cases k20 : F[i].kind = 20
      · rw [one_leaf _ _ _ (by omega)] at hlen
        exact addTrue F o cap d i g v C w h hM hF hlF k20 (by omega)
      by_cases k21 : F[i].kind = 21
      · rw [one_leaf _ _ _ (by omega)] at hlen
        exact addFalse F o cap d i g v C w h hM hF hlF k21 (by omega)
      by_cases k22 : F[i].kind = 22
      · rw [k22] at hok
        obtain ⟨q0, hks⟩ := kids_not F _ hok
        have m0 : q0 ∈ F[i].kids := by rw [hks]; simp
        have z0 := nat q0 m0
        have f0 := kids q0 m0
        obtain ⟨j0, rfl⟩ : ∃ j : Nat, q0 = j := ⟨q0.toNat, by omega⟩
        rw [Int.toNat_natCast] at f0
        have hone : Cp.one (Cp.code F d) F[i] C.length = Cp.zc 1 0 :: Cp.opp (Cp.code F d) (j0 : Int) (C.length + 1) := by
          unfold Cp.one Cp.rest
          rw [k22, hks]
          rfl
        rw [hone, List.length_cons] at hlen
        exact addNot F o cap d i g v C w h hM hF hlF k22 j0 hks ih f0 (by omega)
      by_cases k23 : F[i].kind = 23
      · have hone : Cp.one (Cp.code F d) F[i] C.length = Cp.zc 1 0 :: Cp.sevs (Cp.code F d) 4 F[i].kids (C.length + 1) := by
          unfold Cp.one Cp.rest
          rw [k23]
          rfl
        rw [hone, List.length_cons, Cp.sevs_len] at hlen
        have hg := part_ge (Cp.code F d) 4 F[i].kids (C.length + 1)
        exact addAllK F o cap d i g v C w h hM hF hlF k23 ih (fun k hk => ⟨nat k hk, kids k hk⟩) (by omega) (by omega)
      by_cases k24 : F[i].kind = 24
      · have hone : Cp.one (Cp.code F d) F[i] C.length = Cp.zc 1 0 :: Cp.sevs (Cp.code F d) 3 F[i].kids (C.length + 1) := by
          unfold Cp.one Cp.rest
          rw [k24]
          rfl
        rw [hone, List.length_cons, Cp.sevs_len] at hlen
        have hg := part_ge (Cp.code F d) 3 F[i].kids (C.length + 1)
        exact addAnyK F o cap d i g v C w h hM hF hlF k24 ih (fun k hk => ⟨nat k hk, kids k hk⟩) (by omega) (by omega)
      rw [one_leaf _ _ _ (by omega)] at hlen
      exact addLeaf F o cap d i g v C w h hM hF hlF ⟨k1, k2, k3, k6, k20, k21, k22, k23, k24⟩ hf (by omega)
end Go.Proofs.Ytonnmbkfjiddnaa
