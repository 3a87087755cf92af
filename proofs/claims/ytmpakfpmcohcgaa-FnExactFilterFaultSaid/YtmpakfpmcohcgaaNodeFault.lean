
/- The specification's FilterFault. -/
import Derived.Test.YtmpakfpmcohcgaaNodeSpan
namespace Go.Proofs.Ytmpakfpmcohcgaa
open Go.RowKit Go.Lib Go.Maps
namespace Fn
/-- Whether nodes are a filter. -/
def good (F : List Nd) : Bool := decide (1 ≤ F.length) && (decide (F.length ≤ 2000) && ((kindAt F ((F.length : Int) - 1) == 1) && (Tr.spV (Tr.span (ok F) (kids F) 20 (F.length - 1)) == 0)))
def code (b : Bool) : Int := if b then 0 else 1
end Fn
set_option maxHeartbeats 2000000 in
set_option maxRecDepth 20000 in
theorem specFault (o : Option Addr) (F : List Nd) (cap : Nat) (w : World) (hF : Nds w.heap.size w o F) (hlF : F.length ≤ 1048576) (hfit : ∀ n ∈ F, n.fits 1048576) :
    Calls Try.prog 5 #[.slice o F.length cap] w fun e w' => e = .returned (.int .i64 (Fn.code (Fn.good F))) ∧ Below w.heap.size w w' := by
  obtain ⟨Z, hZ⟩ : ∃ Z, Fn.code (Fn.good F) = Z := ⟨_, rfl⟩
  rw [hZ]
  unfold Fn.good at hZ
  by_cases h1 : 1 ≤ F.length
  · by_cases h2 : F.length ≤ 2000
    · rw [decide_eq_true h1, decide_eq_true h2, Bool.true_and, Bool.true_and] at hZ
      obtain ⟨m, hm⟩ : ∃ m, F.length = m + 1 := ⟨F.length - 1, by omega⟩
      have hml : m < F.length := by omega
      have hS := mkH (specSpan o F cap hlF hfit 20 1 m w rfl hml hF)
      obtain ⟨a, vn, vk, vd, rfl, ha, hA, -⟩ := hF m hml
      have hkA : Fn.kindAt F ((F.length : Int) - 1) = F[m].kind := by
        unfold Fn.kindAt
        rw [show ((F.length : Int) - 1).toNat = m by omega, List.getElem?_eq_getElem hml]
        rfl
      rw [hkA, show F.length - 1 = m by omega] at hZ
      have c0 := hA.c0
      have hmI : (F.length : Int) - 1 = (m : Int) := by omega
      replace hZ := mkH hZ
      replace hm := mkH hm
      clear hA hkA hfit
      generalize F[m].kind = kd at *
      rw [show ((1 : Nat) : Int) = 1 from rfl] at hS
      generalize Tr.spV (Tr.span (Fn.ok F) (Fn.kids F) 20 m) = sp at *
      by_cases hk : kd = 1
      · have k1 : (kd == 1) = true := by simpa using hk
        have k2 : (kd != 1) = false := by simp [hk]
        have hz2 := hZ.out
        rw [k1, Bool.true_and] at hz2
        replace hz2 := mkH hz2
        clear hk hZ
        go_enter Try.func5, Try.ntmps5
        go_wp2_with fail
        refine hS.out.mono ?_
        rintro e w1 ⟨rfl, hb1⟩
        clear hS
        by_cases hs : sp = 0
        · have s1 : (sp == 0) = true := by simpa using hs
          have s2 : (sp != 0) = false := by simp [hs]
          have hz : Hid (Z = 0) := by show Z = 0; rw [← hz2.out, s1]; rfl
          clear hs hz2
          go_wp2
          go_ret
          rw [hz.out]
          exact ⟨rfl, hb1⟩
        · have s1 : (sp == 0) = false := by simpa using hs
          have s2 : (sp != 0) = true := by simpa using hs
          have hz : Hid (Z = 1) := by show Z = 1; rw [← hz2.out, s1]; rfl
          clear hs hz2
          go_wp2
          go_ret
          rw [hz.out]
          exact ⟨rfl, hb1⟩
      · have k1 : (kd == 1) = false := by simpa using hk
        have k2 : (kd != 1) = true := by simpa using hk
        have hz : Hid (Z = 1) := by show Z = 1; rw [← hZ.out, k1]; rfl
        clear hk hZ hS
        go_enter Try.func5, Try.ntmps5
        go_wp2
        go_ret
        rw [hz.out]
        exact ⟨rfl, Below.refl _ _⟩
    · have hz : Hid (Z = 1) := by show Z = 1; rw [← hZ, decide_eq_false h2, Bool.false_and, Bool.and_false]; rfl
      clear hZ hF hfit
      go_enter Try.func5, Try.ntmps5
      go_wp2
      go_ret
      rw [hz.out]
      exact ⟨rfl, Below.refl _ _⟩
  · have hz : Hid (Z = 1) := by show Z = 1; rw [← hZ, decide_eq_false h1]; rfl
    clear hZ hF hfit
    go_enter Try.func5, Try.ntmps5
    go_wp2
    go_ret
    rw [hz.out]
    exact ⟨rfl, Below.refl _ _⟩
end Go.Proofs.Ytmpakfpmcohcgaa
