
/- The specification's test of a filter's nodes and the program's say the same: plain. -/
import Derived.Test.YtmpakfpmcohcgaaNodeFault
import Derived.Test.YtmpakfpmcohcgaaTreeMore
namespace Go.Proofs.Ytmpakfpmcohcgaa
open Go.RowKit Go.Lib Go.Maps
namespace Fn
def bare (n : Nd) : Bool := all5 (u0 n) (m0 n) (t0 n) (n0 n) (k0 n)
def known (k : Int) : Bool := (decide (1 ≤ k) && decide (k ≤ 11)) || (decide (20 ≤ k) && decide (k ≤ 31))
def right (n : Nd) : Bool := if known n.kind = true then fieldsOk n else bare n
def okP (F : List Nd) (i : Nat) : Bool := (F[i]?.map fun n => right n && kidsOk n.kind (n.kids.map (kindAt F))).getD false
theorem known_iff (k : Int) : known k = true ↔ (1 ≤ k ∧ k ≤ 11) ∨ (20 ≤ k ∧ k ≤ 31) := by simp [known]
theorem fields_known (n : Nd) (h : fieldsOk n = true) : known n.kind = true := by
  rw [known_iff]
  unfold fieldsOk at h
  by_cases h1 : n.kind = 3
  · omega
  · rw [if_neg h1] at h
    by_cases h2 : n.kind = 7 ∨ n.kind = 8 ∨ n.kind = 9 ∨ n.kind = 10
    · omega
    · rw [if_neg h2] at h
      by_cases h3 : n.kind = 11
      · omega
      · rw [if_neg h3] at h
        by_cases h4 : n.kind = 28
        · omega
        · rw [if_neg h4] at h
          by_cases h5 : n.kind = 29 ∨ n.kind = 30
          · omega
          · rw [if_neg h5] at h
            by_cases h6 : n.kind = 25 ∨ n.kind = 26 ∨ n.kind = 27 ∨ n.kind = 31
            · omega
            · rw [if_neg h6] at h
              by_cases h7 : n.kind = 1 ∨ n.kind = 2 ∨ n.kind = 4 ∨ n.kind = 5 ∨ n.kind = 6 ∨ n.kind = 20 ∨ n.kind = 21 ∨ n.kind = 22 ∨ n.kind = 23 ∨ n.kind = 24
              · omega
              · rw [if_neg h7] at h
                cases h
theorem ok_okP (F : List Nd) (k : Nat) (h : ok F k = true) : okP F k = true := by
  unfold ok at h
  unfold okP
  cases hq : F[k]? with
  | none => rw [hq] at h; cases h
  | some n =>
    rw [hq] at h
    simp only [Option.map_some, Option.getD_some, Bool.and_eq_true] at h ⊢
    refine ⟨?_, h.2⟩
    unfold right
    rw [if_pos (fields_known n h.1)]
    exact h.1
theorem kid_known (kind : Int) (i : Nat) (k : Int) (h : kidOk kind i k = true) : known k = true := by
  rw [known_iff]
  unfold kidOk at h
  simp only [isCmd, isTest] at h
  repeat' split at h
  all_goals simp at h
  all_goals omega
theorem kids_known (kind : Int) : ∀ (ks : List Int) (i : Nat), kidsFrom kind i ks = true → ∀ k ∈ ks, known k = true
  | [], _, _, k, hk => by cases hk
  | a :: r, i, h, k, hk => by
    rw [kidsFrom, Bool.and_eq_true] at h
    rcases List.mem_cons.1 hk with rfl | hk
    · exact kid_known kind i _ h.1
    · exact kids_known kind r (i + 1) h.2 k hk
theorem okP_ok (F : List Nd) (k : Nat) (hn : known (kindAt F k) = true) (h : okP F k = true) : ok F k = true ∧ ∀ j ∈ kids F k, known (kindAt F ((j.toNat : Nat) : Int)) = true := by
  unfold okP at h
  unfold ok kids
  unfold kindAt at hn
  rw [Int.toNat_natCast] at hn
  cases hq : F[k]? with
  | none => rw [hq] at h; cases h
  | some n =>
    rw [hq] at h hn
    simp only [Option.map_some, Option.getD_some, Bool.and_eq_true] at h hn ⊢
    obtain ⟨h1, h2⟩ := h
    unfold right at h1
    rw [if_pos hn] at h1
    refine ⟨⟨h1, h2⟩, fun j hj => ?_⟩
    unfold kidsOk at h2
    rw [Bool.and_eq_true] at h2
    have := kids_known n.kind _ 0 h2.1 (kindAt F j) (List.mem_map.2 ⟨j, hj, rfl⟩)
    have e : kindAt F ((j.toNat : Nat) : Int) = kindAt F j := by unfold kindAt; rw [Int.toNat_natCast]
    rw [e]
    exact this
/-- The program's answer. -/
def isF (F : List Nd) : Bool :=
  Tr.oneT (kids F) F.length && (decide ((Tr.depTo (kids F) F.length (F.length - 1) : Int) ≤ 20) && ((List.range F.length).all (okP F) && (kindAt F ((F.length : Int) - 1) == 1)))
theorem spV_zero (x : Option Nat) : (Tr.spV x == 0) = true ↔ x = some 0 := by
  cases x with
  | none => simp [Tr.spV]
  | some n => simp [Tr.spV]
theorem good_isF (F : List Nd) (h1 : 1 ≤ F.length) (h2 : F.length ≤ 2000) : good F = isF F := by
  obtain ⟨n, hn⟩ : ∃ n, F.length = n + 1 := ⟨F.length - 1, by omega⟩
  unfold good
  rw [decide_eq_true h1, decide_eq_true h2, Bool.true_and, Bool.true_and, show F.length - 1 = n by omega]
  have hI : (F.length : Int) - 1 = (n : Int) := by omega
  rw [hI]
  by_cases hk : kindAt F n = 1
  · have hs := Tr.same' F.length (Tr.depTo (kids F) F.length) (fun i => Tr.depTo_step (kids F) F.length i) (fun i => known (kindAt F i) = true) (ok_okP F) (fun k => okP_ok F k) n 19 (by omega) (by show known _ = true; rw [hk]; rfl)
    have hb : (kindAt F n == 1) = true := by simpa using hk
    rw [hb, Bool.true_and, Bool.eq_iff_iff, spV_zero, hs, Tr.run_ok, ← Tr.oneT_iff]
    unfold isF
    rw [hI, hb, show F.length - 1 = n by omega, hn]
    simp only [Bool.and_eq_true, decide_eq_true_eq, List.all_eq_true, List.mem_range, and_true]
    constructor
    · rintro ⟨⟨h3, h4⟩, h5⟩
      exact ⟨h3, by omega, h4⟩
    · rintro ⟨h3, h5, h4⟩
      exact ⟨⟨h3, h4⟩, by omega⟩
  · have hb : (kindAt F n == 1) = false := by simpa using hk
    rw [hb, Bool.false_and]
    unfold isF
    rw [hI, hb, Bool.and_false, Bool.and_false, Bool.and_false]
end Fn
end Go.Proofs.Ytmpakfpmcohcgaa
